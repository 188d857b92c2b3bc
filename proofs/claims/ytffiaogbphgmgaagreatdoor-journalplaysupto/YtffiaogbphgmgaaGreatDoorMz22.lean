import Derived.Test.YtffiaogbphgmgaaGreatDoorMz18
import Derived.Test.YtffiaogbphgmgaaGreatDoorMz21
namespace Go.Proofs.YtffiaogbphgmgaaGreatDoor
open Go.RowKit
set_option maxRecDepth 100000
theorem readT_now {s : DSt} (hC : Coh s) (hd : s.dead = false) (i : Nat) (hi : i < s.last.length) : readE s (i : Int) = 0 ∧ readT s (i : Int) = nowP s.last s.pend i := by
  have hok : isOk s (i : Int) := ⟨by omega, by omega⟩
  refine ⟨by rw [readE, if_pos hok, hd]; rfl, ?_⟩
  rw [readT, if_pos hok, hd]
  show s.now.getD (i : Int).toNat ByteArray.empty = _
  rw [Int.toNat_natCast, nowP, hC.now]
theorem RHP.ex (t : ByteArray) (size : Int) : ∃ n H ok, RHP t size n H ok := by
  by_cases h : prOk t ∧ pkd t = 2
  · by_cases h1 : rdV (rs0 t) 1 = 1
    · exact ⟨_, _, _, .inr ⟨h, rfl, .inl ⟨h1, rfl, rfl⟩⟩⟩
    · exact ⟨_, _, _, .inr ⟨h, rfl, .inr ⟨h1, rfl, rfl⟩⟩⟩
  · exact ⟨_, _, _, .inl ⟨h, rfl, rfl, rfl⟩⟩
theorem RHP.uniq {t : ByteArray} {size n n' : Int} {H H' : List Int} {ok ok' : Bool} (h : RHP t size n H ok) (h' : RHP t size n' H' ok') : n = n' ∧ H = H' ∧ ok = ok' := by
  rcases h with ⟨a, rfl, rfl, rfl⟩ | ⟨a, rfl, h⟩
  · rcases h' with ⟨_, rfl, rfl, rfl⟩ | ⟨a', _⟩
    · exact ⟨rfl, rfl, rfl⟩
    · exact absurd a' a
  · rcases h' with ⟨a', _⟩ | ⟨_, rfl, h'⟩
    · exact absurd a a'
    · rcases h with ⟨b, rfl, rfl⟩ | ⟨b, rfl, rfl⟩
      · rcases h' with ⟨_, rfl, rfl⟩ | ⟨b', _⟩
        · exact ⟨rfl, rfl, rfl⟩
        · exact absurd b b'
      · rcases h' with ⟨b', _⟩ | ⟨_, rfl, rfl⟩
        · exact absurd b' b
        · exact ⟨rfl, rfl, rfl⟩
theorem RHP.bad {t : ByteArray} {size n : Int} {H : List Int} {ok : Bool} (h : RHP t size n H ok) (hn : ¬ (prOk t ∧ pkd t = 2)) : ok = false := by
  rcases h with ⟨_, _, _, q⟩ | ⟨q, _⟩
  · exact q
  · exact absurd q hn
theorem intsT {w : World} {base n c : Nat} {p : Option Addr} {l : List Int} (h : w.ownsRow base 3 1 (.slice p n c) n (l.map (Value.int .i64))) (hl : l.length = n) : Ints w p l := fun j hj => by
  obtain ⟨g, e1, e2, _, _, e5⟩ := own_cellT h j (by omega)
  refine ⟨g, 0, e1, e5, ?_⟩
  rw [Nat.zero_add, e2, List.getElem?_map, List.getD_eq_getElem?_getD, List.getElem?_eq_getElem hj]
  rfl
theorem strsT {w : World} {base n c : Nat} {p : Option Addr} {l : List ByteArray} (h : w.ownsRow base 9 1 (.slice p n c) n (strs l)) (hl : l.length = n) : Strs w p l := fun j hj => by
  obtain ⟨g, e1, e2, _, _, e5⟩ := own_cellT h j (by omega)
  refine ⟨g, 0, e1, e5, ?_⟩
  rw [Nat.zero_add, e2]
  exact strs_at l j hj
/-- the records, as far as they are read -/
def dts (s : DSt) (k : Nat) : List ByteArray := (List.range k).map fun i => nowP s.last s.pend (2 + i)
theorem dts_len (s : DSt) (k : Nat) : (dts s k).length = k := by simp [dts]
theorem dts_succ (s : DSt) (k : Nat) : strs (dts s (k + 1)) = strs (dts s k) ++ [.string (nowP s.last s.pend (2 + k))] := by simp [dts, strs, List.range_succ]
theorem dts_at (s : DSt) (k i : Nat) (h : i < k) : (dts s k).getD i ByteArray.empty = nowP s.last s.pend (2 + i) := by simp [dts, List.getD_eq_getElem?_getD, h]
def ROQ (base b : Nat) (v : RV) (s : DSt) (w : World) (e : Ending) (w' : World) : Prop :=
  (readE s 1 ≠ 0 ∧ e = .returned (.tuple #[.pointer none, .bool false, .int .i64 (readE s 1)]) ∧ RPst base b v s w w') ∨
  (readE s 1 = 0 ∧ ∃ (n : Nat) (H : List Int) (ok : Bool), n < 4294967296 ∧ RHP (readT s 1) (s.last.length : Int) (n : Int) H ok ∧
    ((ok = false ∧ e = .returned (.tuple #[.pointer none, .bool false, .int .i64 53]) ∧ RPst base b v s w w') ∨
     (ok = true ∧ H.length = 0 ∧ ∃ jb, e = .returned (.tuple #[.pointer (some ⟨jb, 0, none⟩), .bool false, .int .i64 0]) ∧ RPst base b v s w w' ∧ Rj w' jb b n false ∧ w.heap.size ≤ jb) ∨
     (ok = true ∧ 0 < H.length ∧ (redoR s n H).1 ≠ 0 ∧ e = .returned (.tuple #[.pointer none, .bool false, .int .i64 (redoR s n H).1]) ∧ RPst base b v (redoR s n H).2 w w') ∨
     (ok = true ∧ 0 < H.length ∧ (redoR s n H).1 = 0 ∧ ∃ jb, e = .returned (.tuple #[.pointer (some ⟨jb, 0, none⟩), .bool true, .int .i64 0]) ∧ RPst base b v (redoR s n H).2 w w' ∧ Rj w' jb b n false ∧ w.heap.size ≤ jb)))
theorem RPst.of_below {w w' : World} {base b : Nat} {v : RV} {s : DSt} (h : Rk w base b v s) (hb : Below w.heap.size w w') : RPst base b v s w w' := ⟨v, h.below hb, Only.of_below hb, fun _ q => .inl q⟩
theorem str0_ne {bd : ByteArray} (h : bd ≠ ⟨#[0]⟩) : (bd.toList == [0]) = false := by
  have h2 := str_ne h
  rwa [show (⟨#[0]⟩ : ByteArray).toList = [0] from by rw [ByteArray.toList_eq]] at h2
theorem Rk.frT {w : World} {base b : Nat} {v : RV} {s : DSt} (h : Rk w base b v s) (k : Nat) (hk : Fr4 b v k) : k < w.heap.size := by
  rcases hk with q | q | q | q
  · rw [q]; exact h.blk.lt
  · exact (h.rl.lt k q).2
  · exact (h.rp.lt k q).2
  · exact (h.ra.lt k q).2
set_option maxHeartbeats 8000000 in
theorem ropen_any {w : World} {base b : Nat} {v : RV} {s : DSt} (h : Rk w base b v s) (hb : base ≤ w.heap.size) (hS : Sane s) (hC : Coh s) (hp : s.pend.length ≤ 100000000) (ha : s.acts.length ≤ 100000000) (hL : 18 ≤ s.last.length) :
    Calls Tryz.prog 30 #[.pointer (some ⟨b, 0, none⟩)] w (ROQ base b v s w) := by
  cases hd : s.dead with
  | true =>
    have c3 : w.cell? ⟨b, 3, none⟩ = some (.bool true) := by rw [h.blk.cell 3]; simp [hd]
    have he : readE s 1 = 2 := by rw [readE, if_pos (show isOk s 1 from ⟨by omega, by omega⟩), hd]; rfl
    have HF := hide (show ROQ base b v s w (.returned (.tuple #[.pointer none, .bool false, .int .i64 2])) w from .inl ⟨by rw [he]; decide, by rw [he], RPst.of_below h (Below.refl _ _)⟩)
    clear h hS hC hp ha hL hd he hb
    go_enter Tryz.func30, Tryz.ntmps30
    go_wp2
    go_ret3
    exact unhide HF
  | false =>
    have c3 : w.cell? ⟨b, 3, none⟩ = some (.bool false) := by rw [h.blk.cell 3]; simp [hd]
    obtain ⟨q1, q2⟩ := readT_now hC hd 1 (by omega)
    rw [show ((1 : Nat) : Int) = 1 from rfl] at q1 q2
    have HNW := hide (rnow_any w base b v s h (by omega) 1 (by omega))
    rw [← q2, show ((1 : Nat) : Int) = 1 from rfl] at HNW
    have HPS := hide (fun W => rparse_any (readT s 1) W)
    obtain ⟨n0, H, ok, hR⟩ := RHP.ex (readT s 1) (s.last.length : Int)
    obtain ⟨r1, r2, r3⟩ := hR.num
    obtain ⟨n, rfl⟩ := Int.eq_ofNat_of_zero_le r1
    have HR := hide (And.intro hR (show n < 4294967296 by omega))
    have HE := hide q1
    have HH := hide (And.intro h (And.intro hb (And.intro hS (And.intro hC (And.intro hp (And.intro ha (And.intro hL hd)))))))
    have HNO := hide (fun (W : World) (hW : Below w.heap.size w W) (hk : ok = false) => (show ROQ base b v s w (.returned (.tuple #[.pointer none, .bool false, .int .i64 53])) W from .inr ⟨q1, n, H, ok, by omega, hR, .inl ⟨hk, rfl, RPst.of_below h hW⟩⟩))
    have HTT := hide (show readT s 1 = readT s 1 from rfl)
    obtain ⟨tt, htt⟩ : ∃ z, readT s 1 = z := ⟨_, rfl⟩
    rw [htt] at HNW HPS HR
    have HT := hide htt
    clear h hb hS hC hp ha hL q1 q2 hR r1 r2 r3 htt HTT
    go_enter Tryz.func30, Tryz.ntmps30
    go_wp2_with fail
    refine (unhide HNW).mono ?_
    rintro e x1 ⟨rfl, hb1⟩
    have HB1 := hide hb1
    clear hb1 HNW c3
    go_wp2_with fail
    refine (unhide HPS _).mono ?_
    rintro e x2 ⟨hpp, hb2⟩
    have HB2 := hide (show Below w.heap.size w x2 from (unhide HB1).trans (hb2.mono (unhide HB1).size))
    clear hb2 HB1 HPS
    rcases hpp with ⟨hok, rfl⟩ | ⟨hno, rfl⟩
    · by_cases hk2 : pkd tt = 2
      · obtain ⟨hnm, hcs⟩ := rhp_doc tt _ _ H ok (unhide HR).1 ⟨hok, hk2⟩
        rw [hk2, ← hnm]
        obtain ⟨bd, hbd⟩ : ∃ z, pbd tt = z := ⟨_, rfl⟩
        rw [hbd] at hcs ⊢
        obtain ⟨g4, hg4⟩ : ∃ xx, x2.heap.size = xx := ⟨_, rfl⟩
        obtain ⟨x4, hx4⟩ : ∃ xx, x2.alloc (.cells #[.int .i64 2, .int .i64 (n : Int), .string bd] 123) = xx := ⟨_, rfl⟩
        have B4 : Blk x4 g4 #[.int .i64 2, .int .i64 (n : Int), .string bd] 123 := by rw [← hx4, ← hg4]; exact Blk.new x2 _ _
        have hb4 : Below w.heap.size w x4 := by rw [← hx4]; exact (unhide HB2).alloc (by have := (unhide HB2).size; omega) _
        have a0 : x4.cell? ⟨g4, 0, none⟩ = some (.int .i64 2) := B4.cell 0
        have a1 : x4.cell? ⟨g4, 1, none⟩ = some (.int .i64 (n : Int)) := B4.cell 1
        obtain ⟨g5, hg5⟩ : ∃ xx, x4.heap.size = xx := ⟨_, rfl⟩
        obtain ⟨x5, hx5⟩ : ∃ xx, x4.alloc (.cells #[.pointer (some ⟨b, 0, none⟩), .int .i64 (n : Int), .bool false] 127) = xx := ⟨_, rfl⟩
        have B5 : Blk x5 g4 #[.int .i64 2, .int .i64 (n : Int), .string bd] 123 := by rw [← hx5]; exact B4.alloc _
        have J5 : Blk x5 g5 #[.pointer (some ⟨b, 0, none⟩), .int .i64 (n : Int), .bool false] 127 := by rw [← hx5, ← hg5]; exact Blk.new x4 _ _
        have a2 : x5.cell? ⟨g4, 2, none⟩ = some (.string bd) := B5.cell 2
        have hb5 : Below w.heap.size w x5 := by rw [← hx5]; exact hb4.alloc (by have := hb4.size; omega) _
        have HB5 := hide (And.intro hb5 (And.intro B5 (And.intro J5 (show w.heap.size ≤ g5 by rw [← hg5]; exact hb4.size))))
        clear hb4 B4 B5 J5 hb5 HB2 hnm hbd hok hk2
        rcases hcs with ⟨hbz, hH0, hk⟩ | ⟨hbz, htg, hH16, hk⟩ | ⟨hbz, htg, hk⟩
        · subst hbz
          have HF := hide (show ROQ base b v s w (.returned (.tuple #[.pointer (some ⟨g5, 0, none⟩), .bool false, .int .i64 0])) x5 from .inr ⟨unhide HE, n, H, ok, (unhide HR).2, by rw [unhide HT]; exact (unhide HR).1, .inr (.inl ⟨hk, by rw [hH0]; rfl, g5, rfl, RPst.of_below (unhide HH).1 (unhide HB5).1, (unhide HB5).2.2.1, (unhide HB5).2.2.2⟩)⟩)
          clear hH0 hk
          go_wp2
          go_ret3
          exact unhide HF
        · have hbn := str0_ne hbz
          obtain ⟨pl, cl, hvl, -⟩ := row_form (unhide HH).1.rl
          obtain ⟨ll, hll⟩ : ∃ z, s.last.length = z := ⟨_, rfl⟩
          have cL : x5.cell? ⟨b, 0, none⟩ = some (.slice pl ll cl) := by
            have h1 := (unhide HH).1.below (unhide HB5).1
            have h2 := h1.blk.cell 0
            rw [hvl, hll] at h2
            exact h2
          rw [hll] at htg
          have HTG := hide (fun W => rtargets_any bd (ll : Int) W)
          have HTS := hide (And.intro htg hH16)
          have HLT := hide (show g4 < x5.heap.size ∧ b < x5.heap.size from ⟨(unhide HB5).2.1.lt, ((unhide HH).1.below (unhide HB5).1).blk.lt⟩)
          clear hvl htg hH16 hbz
          go_wp2_with fail
          (try rw [hx4])
          (try rw [hx5])
          clear hx4 hx5
          refine wp_region_held_drew (S := fun W => Below x5.heap.size x5 W ∧ W.cell? ⟨g4, 2, none⟩ = some (.string bd) ∧ W.cell? ⟨b, 0, none⟩ = some (.slice pl ll cl)) (by kernel_rfl) ⟨(Below.refl _ _).drew, a2, cL⟩ ?_
          intro hS
          refine wpAnyH_takeD 0 (some 39) (.pointer (some ⟨g4, 2, none⟩)) rfl rfl (by kernel_rfl) (by kernel_rfl) (by kernel_rfl) (fun _ _ _ h => h) (Or.inl ⟨by rfl, fun w hSw => by obtain ⟨-, q0, q1⟩ := hSw; go_simp⟩) hS ?_
          simp only [Act.put, List.setIfInBounds_toArray, List.set_cons_zero, List.set_cons_succ]
          refine wpAnyH_takeD 1 (some 40) (.string bd) rfl rfl (by kernel_rfl) (by kernel_rfl) (by kernel_rfl) (fun _ _ _ h => h) (Or.inl ⟨by rfl, fun w hSw => by obtain ⟨-, q0, q1⟩ := hSw; go_simp⟩) hS ?_
          simp only [Act.put, List.setIfInBounds_toArray, List.set_cons_zero, List.set_cons_succ]
          refine wpAnyH_takeD 2 (some 41) (.pointer (some ⟨b, 0, none⟩)) rfl rfl (by kernel_rfl) (by kernel_rfl) (by kernel_rfl) (fun _ _ _ h => h) (Or.inl ⟨by rfl, fun w hSw => by obtain ⟨-, q0, q1⟩ := hSw; go_simp⟩) hS ?_
          simp only [Act.put, List.setIfInBounds_toArray, List.set_cons_zero, List.set_cons_succ]
          refine wpAnyH_takeD 3 (some 42) (.pointer (some ⟨b, 0, none⟩)) rfl rfl (by kernel_rfl) (by kernel_rfl) (by kernel_rfl) (fun _ _ _ h => h) (Or.inl ⟨by rfl, fun w hSw => by obtain ⟨-, q0, q1⟩ := hSw; go_simp⟩) hS ?_
          simp only [Act.put, List.setIfInBounds_toArray, List.set_cons_zero, List.set_cons_succ]
          refine wpAnyH_takeD 4 (some 43) (.pointer (some ⟨b, 0, none⟩)) rfl rfl (by kernel_rfl) (by kernel_rfl) (by kernel_rfl) (fun _ _ _ h => h) (Or.inl ⟨by rfl, fun w hSw => by obtain ⟨-, q0, q1⟩ := hSw; go_simp⟩) hS ?_
          simp only [Act.put, List.setIfInBounds_toArray, List.set_cons_zero, List.set_cons_succ]
          refine wpAnyH_takeD 5 (some 44) (.slice pl ll cl) rfl rfl (by kernel_rfl) (by kernel_rfl) (by kernel_rfl) (fun _ _ _ h => h) (Or.inl ⟨by rfl, fun w hSw => by obtain ⟨-, q0, q1⟩ := hSw; go_simp⟩) hS ?_
          simp only [Act.put, List.setIfInBounds_toArray, List.set_cons_zero, List.set_cons_succ]
          refine wpAnyH_takeD 6 (some 45) (.int .i64 (ll : Int)) rfl rfl (by kernel_rfl) (by kernel_rfl) (by kernel_rfl) (fun _ _ _ h => h) (Or.inl ⟨by rfl, fun w hSw => by obtain ⟨-, q0, q1⟩ := hSw; go_simp⟩) hS ?_
          simp only [Act.put, List.setIfInBounds_toArray, List.set_cons_zero, List.set_cons_succ]
          refine wpAnyH_ready (rs := [7]) (by kernel_rfl) (by simp) ?_
          refine AllReadyH.cons rfl (fun K hK => ?_) AllReadyH.nil
          simp only [List.getElem_toArray, List.getElem_cons_succ, List.getElem_cons_zero]
          go_simp
          refine (unhide HTG _).mono ?_
          rintro e x6 ⟨hq, hb6⟩
          obtain ⟨p6, c6, rfl, hrw⟩ : ∃ p c, e = .returned (.tuple #[.slice p 16 c, .bool true]) ∧ x6.ownsRow x5.heap.size 3 1 (.slice p 16 c) 16 (H.map (Value.int .i64)) := by
            rcases hq with ⟨q, _⟩ | ⟨l, p, c, q1, q2, q3⟩
            · rw [(unhide HTS).1] at q; cases q
            · rw [(unhide HTS).1] at q1
              obtain rfl := Option.some.inj q1
              rw [(unhide HTS).2] at q2 q3
              exact ⟨p, c, q2, q3⟩
          have HRW := hide hrw
          clear hq hrw
          refine hK.out _ _ ⟨hS.1.trans (hb6.mono hS.1.size), (hb6.cell (p := ⟨g4, 2, none⟩) (Nat.lt_of_lt_of_le (unhide HLT).1 hS.1.size)).trans hS.2.1, (hb6.cell (p := ⟨b, 0, none⟩) (Nat.lt_of_lt_of_le (unhide HLT).2 hS.1.size)).trans hS.2.2⟩ (fun hS => ?_)
          clear hK K
          refine wpAnyH_takeD 8 (some 38) (.tuple #[.slice p6 16 c6, .bool true]) rfl rfl (by kernel_rfl) (by kernel_rfl) (by kernel_rfl) (fun _ _ _ h => h) (Or.inl ⟨by rfl, fun w hSw => by obtain ⟨-, q0, q1⟩ := hSw; go_simp⟩) hS ?_
          simp only [Act.put, List.setIfInBounds_toArray, List.set_cons_zero, List.set_cons_succ]
          refine wpAnyH_takeD 9 (some 47) (.slice p6 16 c6) rfl rfl (by kernel_rfl) (by kernel_rfl) (by kernel_rfl) (fun _ _ _ h => h) (Or.inl ⟨by rfl, fun w hSw => by obtain ⟨-, q0, q1⟩ := hSw; go_simp⟩) hS ?_
          simp only [Act.put, List.setIfInBounds_toArray, List.set_cons_zero, List.set_cons_succ]
          refine wpAnyH_takeD 10 (some 48) (.bool true) rfl rfl (by kernel_rfl) (by kernel_rfl) (by kernel_rfl) (fun _ _ _ h => h) (Or.inl ⟨by rfl, fun w hSw => by obtain ⟨-, q0, q1⟩ := hSw; go_simp⟩) hS ?_
          simp only [Act.put, List.setIfInBounds_toArray, List.set_cons_zero, List.set_cons_succ]
          refine wpAnyH_takeD 11 (some 8) (.slice p6 16 c6) rfl rfl (by kernel_rfl) (by kernel_rfl) (by kernel_rfl) (fun _ _ _ h => h) (Or.inl ⟨by rfl, fun w hSw => by obtain ⟨-, q0, q1⟩ := hSw; go_simp⟩) hS ?_
          simp only [Act.put, List.setIfInBounds_toArray, List.set_cons_zero, List.set_cons_succ]
          refine wpAnyH_takeD 12 (some 9) (.bool true) rfl rfl (by kernel_rfl) (by kernel_rfl) (by kernel_rfl) (fun _ _ _ h => h) (Or.inl ⟨by rfl, fun w hSw => by obtain ⟨-, q0, q1⟩ := hSw; go_simp⟩) hS ?_
          simp only [Act.put, List.setIfInBounds_toArray, List.set_cons_zero, List.set_cons_succ]
          refine wpAnyH_done (by kernel_rfl) ?_ _
          have HS6 := hide hS.1
          clear hS a2 cL
          have HB6 := hide (show Below w.heap.size w x6 ∧ Blk x6 g4 #[.int .i64 2, .int .i64 (n : Int), .string bd] 123 ∧ Blk x6 g5 #[.pointer (some ⟨b, 0, none⟩), .int .i64 (n : Int), .bool false] 127 ∧ w.heap.size ≤ g5 ∧ w.heap.size ≤ x5.heap.size from by
            obtain ⟨c1, c2, c3, c4⟩ := unhide HB5
            have d := unhide HS6
            exact ⟨c1.trans (d.mono c1.size), c2.below d c2.lt, c3.below d c3.lt, c4, c1.size⟩)
          obtain ⟨N6, hN6⟩ : ∃ z, x6.heap.size = z := ⟨_, rfl⟩
          have X0 := hide (show x6.ownsRow N6 9 1 (.slice none 0 0) 0 (strs (dts s 0)) from World.ownsRow_nil _ _ _ _)
          obtain ⟨i0, hi0, hz0, hz1, hz2⟩ := info_parts infoS
          have HII := hide (And.intro hi0 (And.intro hz0 (And.intro hz1 hz2)))
          have HCX := hide (show ∀ W, Below N6 x6 W → Below w.heap.size w W ∧ Blk W g4 #[.int .i64 2, .int .i64 (n : Int), .string bd] 123 ∧ Blk W g5 #[.pointer (some ⟨b, 0, none⟩), .int .i64 (n : Int), .bool false] 127 ∧ Rk W base b v s ∧ W.ownsRow x5.heap.size 3 1 (.slice p6 16 c6) 16 (H.map (Value.int .i64)) ∧ N6 ≤ W.heap.size from fun W hW => by
            obtain ⟨c1, c2, c3, c4, c5⟩ := unhide HB6
            have hW' : Below x6.heap.size x6 W := by rw [hN6]; exact hW
            have e1 := c1.trans (hW'.mono c1.size)
            exact ⟨e1, c2.below hW' c2.lt, c3.below hW' c3.lt, (unhide HH).1.below e1, owns_only (unhide HRW) (Only.of_below (P := fun _ => False) hW') (fun _ _ q => q), by rw [← hN6]; exact hW.size⟩)
          have HKK := hide (And.intro hk hll)
          have HN7 := hide (show w.heap.size ≤ N6 from by rw [← hN6]; exact (unhide HB6).1.size)
          clear hi0 hz0 hz1 hz2 HTG HLT HS6 hN6 hk hll hbn a0 a1
          go_wp2_with fail
          go_loopw [10, 11] (fun dv i wx => ∃ (k : Nat) (p : Option Addr) (c : Nat), k ≤ 16 ∧ i = .int .i64 (k : Int) ∧ dv = .slice p k c ∧ wx.ownsRow N6 9 1 (.slice p k c) k (strs (dts s k)) ∧ Below N6 x6 wx) (fun _ i _ => 16 - (intOf i).toNat)
          case atStart => exact ⟨0, none, 0, by omega, rfl, rfl, unhide X0, Below.refl _ _⟩
          case round =>
            obtain ⟨k, pd, cd, hk16, rfl, rfl, hrow, hbx⟩ := hrel
            obtain ⟨wo, rfl⟩ : ∃ W, W = wr := ⟨_, rfl⟩
            have HRO := hide (And.intro hrow hbx)
            clear hrow hbx X0
            by_cases hkl : k < 16
            · have k16 : (k : Int) < 16 := by omega
              obtain ⟨kk, hkk⟩ : ∃ z : Nat, 2 + k = z := ⟨_, rfl⟩
              have w1 : IntKind.i64.wrap (2 + (k : Int)) = (kk : Int) := by rw [wrapI_eq _ (by omega) (by omega)]; omega
              have HNW := hide (rnow_any wo base b v s (unhide HCX wo (unhide HRO).2).2.2.2.1 (by have := (unhide HH).2.2.2.2.1; omega) kk (by have := (unhide HH).2.2.2.2.2.2.1; omega))
              obtain ⟨tx, htx⟩ : ∃ z, nowP s.last s.pend kk = z := ⟨_, rfl⟩
              rw [htx] at HNW
              have HDS := hide (show strs (dts s (k + 1)) = strs (dts s k) ++ [.string tx] from by rw [dts_succ, hkk, htx])
              clear hkk htx
              go_wp2_with fail
              refine (unhide HNW).mono ?_
              rintro e x7 ⟨rfl, hb7⟩
              have HB7 := hide (show Below N6 x6 x7 from (unhide HRO).2.trans (hb7.mono (unhide HCX wo (unhide HRO).2).2.2.2.2.2))
              have HRWD := hide (show (x7.alloc (.cells #[.string tx] 9)).ownsRow N6 9 1 (.slice pd k cd) k (strs (dts s k)) from owns_only (unhide HRO).1 ((Only.of_below (P := fun _ => False) hb7).alloc _) (fun _ _ q => q))
              have HBS := hide (show N6 ≤ (x7.alloc (.cells #[.string tx] 9)).heap.size from Nat.le_trans (unhide HCX x7 (unhide HB7)).2.2.2.2.2 (by simp))
              have HML := hide (show k + 1 ≤ maxLen ∧ (k + 1) * 16 ≤ 140737488355328 from ⟨by unfold maxLen; omega, by omega⟩)
              clear hb7 HNW w1
              go_wp2_with (refine wpList_append_lies _ rfl (.tmp 55) (.tmp 60) 56 rfl N6 9 i0 (.string ⟨#[]⟩) 1 16 Tryz.underlying56 (unhide HII).1 (unhide HII).2.1 (unhide HII).2.2.1 (unhide HII).2.2.2 rfl (by decide) (.slice pd k cd) k (strs (dts s k)) rfl (unhide HRWD) ⟨x7.heap.size, 0, none⟩ 1 1 [.string tx] rfl rfl (fun q u hu => news_one x7 9 _ q u hu) (by simp [Value.oneCell']) (by decide) (unhide HML).1 (unhide HML).2 (unhide HBS) _ rfl ?_)
              intro g1 c1 y1 ho1 hg1 hor1 hlt1
              have HNX := hide (show y1.ownsRow N6 9 1 (.slice (some ⟨g1, 0, none⟩) (k + 1) c1) (k + 1) (strs (dts s (k + 1))) ∧ Below N6 x6 y1 from ⟨by rw [unhide HDS]; exact ho1, by
                have b1 : Below N6 x6 (x7.alloc (.cells #[.string tx] 9)) := (unhide HB7).alloc (unhide HCX x7 (unhide HB7)).2.2.2.2.2 _
                have b2 : Below N6 (x7.alloc (.cells #[.string tx] 9)) y1 := (grown_only hg1).below (unhide HBS) (fun b hb q => by have := ((unhide HRWD).lt b q).1; omega)
                exact b1.trans b2⟩)
              clear ho1 hg1 hor1 hlt1 HRWD HBS HML HB7 HDS
              go_wp2
              go_roundw
              case rel => exact ⟨k + 1, _, _, by omega, by go_num, rfl, (unhide HNX).1, (unhide HNX).2⟩
              case measure => simp [intOf]; omega
            · have k16 : ¬ (k : Int) < 16 := by omega
              have hke : k = 16 := by omega
              obtain ⟨c1, c2, c3, c4, c5, c6'⟩ := unhide HCX wo (unhide HRO).2
              obtain ⟨h, hb, hS, hC, hp, ha, hL, hd⟩ := unhide HH
              have hrow := (unhide HRO).1
              rw [hke] at hrow
              have fP : ∀ g o, p6 = some ⟨g, o, none⟩ → ¬ Fr4 b v g := fun g o e1 q => by
                obtain ⟨g', e2, _, _, e5, _⟩ := own_cellT c5 0 (by decide)
                rw [e1] at e2
                have := h.frT g q
                have := (unhide HB6).2.2.2.2
                injection e2 with e3
                injection e3 with e4
                omega
              have fQ : ∀ g o, pd = some ⟨g, o, none⟩ → ¬ Fr4 b v g := fun g o e1 q => by
                obtain ⟨g', e2, _, _, e5, _⟩ := own_cellT hrow 0 (by decide)
                rw [e1] at e2
                have := h.frT g q
                have h7 := unhide HN7
                injection e2 with e3
                injection e3 with e4
                omega
              have HSC := hide (rsecond_loop wo base b v s c4 (Nat.le_trans hb c1.size) hS hC hp ha n (unhide HR).2 p6 pd c6 cd H (dts s 16) (unhide HTS).2 (dts_len s 16) (intsT c5 (unhide HTS).2) (strsT hrow (dts_len s 16)) fP fQ (redoL s H) (by rw [redoL_len, (unhide HTS).2]) (fun i hi => by rw [redoL_at s H i (by rw [(unhide HTS).2]; exact hi), dts_at s 16 i hi, (readT_now hC hd (2 + i) (by omega)).2]))
              have a1 : wo.cell? ⟨g4, 1, none⟩ = some (.int .i64 (n : Int)) := c2.cell 1
              have HW := hide (And.intro c1 (And.intro c3 h))
              clear c1 c2 c3 c4 c5 c6' h hb hS hC hp ha hL hrow fP fQ
              obtain rfl : k = 16 := hke
              go_wp2_with fail
              refine (unhide HSC).mono ?_
              rintro e x8 ⟨rfl, hP8⟩
              have hP8' : RPst base b v (redoR s n H).2 wo x8 := hP8
              have hPw : RPst base b v (redoR s n H).2 w x8 := RPst.belowL (unhide HW).1 hP8'
              obtain ⟨v8, u1, u2, u3⟩ := hP8'
              have hJ8 : Rj x8 g5 b n false := (unhide HW).2.1.only u2 (fun q => by have := (unhide HW).2.2.frT g5 q; have := (unhide HB6).2.2.2.1; omega)
              obtain ⟨E, hE⟩ : ∃ E, (secR s n (redoL s H)).1 = E := ⟨_, rfl⟩
              have hE' : (redoR s n H).1 = E := hE
              rw [hE]
              have HFA := hide (fun (q : E ≠ 0) => (show ROQ base b v s w (.returned (.tuple #[.pointer none, .bool false, .int .i64 E])) x8 from .inr ⟨unhide HE, n, H, ok, (unhide HR).2, by rw [unhide HT]; exact (unhide HR).1, .inr (.inr (.inl ⟨(unhide HKK).1, by rw [(unhide HTS).2]; decide, by rw [hE']; exact q, by rw [hE'], hPw⟩))⟩))
              have HFB := hide (fun (q : E = 0) => (show ROQ base b v s w (.returned (.tuple #[.pointer (some ⟨g5, 0, none⟩), .bool true, .int .i64 0])) x8 from .inr ⟨unhide HE, n, H, ok, (unhide HR).2, by rw [unhide HT]; exact (unhide HR).1, .inr (.inr (.inr ⟨(unhide HKK).1, by rw [(unhide HTS).2]; decide, by rw [hE']; exact q, g5, rfl, hPw, hJ8, (unhide HB6).2.2.2.1⟩))⟩))
              clear hP8 hPw u1 u2 u3 hJ8 hE hE' HSC HW a1
              by_cases hE0 : E = 0
              · have eb : (E != 0) = false := by simpa using hE0
                have HF := hide (unhide HFB hE0)
                clear hE0 HFA HFB
                go_wp2
                go_ret3
                exact unhide HF
              · have eb : (E != 0) = true := by simpa using hE0
                have HF := hide (unhide HFA hE0)
                clear hE0 HFA HFB
                go_wp2
                go_ret3
                exact unhide HF
        · have hbn := str0_ne hbz
          obtain ⟨pl, cl, hvl, -⟩ := row_form (unhide HH).1.rl
          obtain ⟨ll, hll⟩ : ∃ z, s.last.length = z := ⟨_, rfl⟩
          have cL : x5.cell? ⟨b, 0, none⟩ = some (.slice pl ll cl) := by
            have h1 := (unhide HH).1.below (unhide HB5).1
            have h2 := h1.blk.cell 0
            rw [hvl, hll] at h2
            exact h2
          rw [hll] at htg
          have HTG := hide (fun W => rtargets_any bd (ll : Int) W)
          have HTS := hide htg
          have HKF := hide hk
          have HLT := hide (show g4 < x5.heap.size ∧ b < x5.heap.size from ⟨(unhide HB5).2.1.lt, ((unhide HH).1.below (unhide HB5).1).blk.lt⟩)
          clear hvl htg hbz hk
          go_wp2_with fail
          (try rw [hx4])
          (try rw [hx5])
          clear hx4 hx5
          refine wp_region_held_drew (S := fun W => Below x5.heap.size x5 W ∧ W.cell? ⟨g4, 2, none⟩ = some (.string bd) ∧ W.cell? ⟨b, 0, none⟩ = some (.slice pl ll cl)) (by kernel_rfl) ⟨(Below.refl _ _).drew, a2, cL⟩ ?_
          intro hS
          refine wpAnyH_takeD 0 (some 39) (.pointer (some ⟨g4, 2, none⟩)) rfl rfl (by kernel_rfl) (by kernel_rfl) (by kernel_rfl) (fun _ _ _ h => h) (Or.inl ⟨by rfl, fun w hSw => by obtain ⟨-, q0, q1⟩ := hSw; go_simp⟩) hS ?_
          simp only [Act.put, List.setIfInBounds_toArray, List.set_cons_zero, List.set_cons_succ]
          refine wpAnyH_takeD 1 (some 40) (.string bd) rfl rfl (by kernel_rfl) (by kernel_rfl) (by kernel_rfl) (fun _ _ _ h => h) (Or.inl ⟨by rfl, fun w hSw => by obtain ⟨-, q0, q1⟩ := hSw; go_simp⟩) hS ?_
          simp only [Act.put, List.setIfInBounds_toArray, List.set_cons_zero, List.set_cons_succ]
          refine wpAnyH_takeD 2 (some 41) (.pointer (some ⟨b, 0, none⟩)) rfl rfl (by kernel_rfl) (by kernel_rfl) (by kernel_rfl) (fun _ _ _ h => h) (Or.inl ⟨by rfl, fun w hSw => by obtain ⟨-, q0, q1⟩ := hSw; go_simp⟩) hS ?_
          simp only [Act.put, List.setIfInBounds_toArray, List.set_cons_zero, List.set_cons_succ]
          refine wpAnyH_takeD 3 (some 42) (.pointer (some ⟨b, 0, none⟩)) rfl rfl (by kernel_rfl) (by kernel_rfl) (by kernel_rfl) (fun _ _ _ h => h) (Or.inl ⟨by rfl, fun w hSw => by obtain ⟨-, q0, q1⟩ := hSw; go_simp⟩) hS ?_
          simp only [Act.put, List.setIfInBounds_toArray, List.set_cons_zero, List.set_cons_succ]
          refine wpAnyH_takeD 4 (some 43) (.pointer (some ⟨b, 0, none⟩)) rfl rfl (by kernel_rfl) (by kernel_rfl) (by kernel_rfl) (fun _ _ _ h => h) (Or.inl ⟨by rfl, fun w hSw => by obtain ⟨-, q0, q1⟩ := hSw; go_simp⟩) hS ?_
          simp only [Act.put, List.setIfInBounds_toArray, List.set_cons_zero, List.set_cons_succ]
          refine wpAnyH_takeD 5 (some 44) (.slice pl ll cl) rfl rfl (by kernel_rfl) (by kernel_rfl) (by kernel_rfl) (fun _ _ _ h => h) (Or.inl ⟨by rfl, fun w hSw => by obtain ⟨-, q0, q1⟩ := hSw; go_simp⟩) hS ?_
          simp only [Act.put, List.setIfInBounds_toArray, List.set_cons_zero, List.set_cons_succ]
          refine wpAnyH_takeD 6 (some 45) (.int .i64 (ll : Int)) rfl rfl (by kernel_rfl) (by kernel_rfl) (by kernel_rfl) (fun _ _ _ h => h) (Or.inl ⟨by rfl, fun w hSw => by obtain ⟨-, q0, q1⟩ := hSw; go_simp⟩) hS ?_
          simp only [Act.put, List.setIfInBounds_toArray, List.set_cons_zero, List.set_cons_succ]
          refine wpAnyH_ready (rs := [7]) (by kernel_rfl) (by simp) ?_
          refine AllReadyH.cons rfl (fun K hK => ?_) AllReadyH.nil
          simp only [List.getElem_toArray, List.getElem_cons_succ, List.getElem_cons_zero]
          go_simp
          refine (unhide HTG _).mono ?_
          rintro e x6 ⟨hq, hb6⟩
          obtain rfl : e = .returned (.tuple #[.slice none 0 0, .bool false]) := by
            rcases hq with ⟨_, q⟩ | ⟨l, p, c, q1, _⟩
            · exact q
            · rw [unhide HTS] at q1; cases q1
          clear hq
          refine hK.out _ _ ⟨hS.1.trans (hb6.mono hS.1.size), (hb6.cell (p := ⟨g4, 2, none⟩) (Nat.lt_of_lt_of_le (unhide HLT).1 hS.1.size)).trans hS.2.1, (hb6.cell (p := ⟨b, 0, none⟩) (Nat.lt_of_lt_of_le (unhide HLT).2 hS.1.size)).trans hS.2.2⟩ (fun hS => ?_)
          clear hK K
          refine wpAnyH_takeD 8 (some 38) (.tuple #[.slice none 0 0, .bool false]) rfl rfl (by kernel_rfl) (by kernel_rfl) (by kernel_rfl) (fun _ _ _ h => h) (Or.inl ⟨by rfl, fun w hSw => by obtain ⟨-, q0, q1⟩ := hSw; go_simp⟩) hS ?_
          simp only [Act.put, List.setIfInBounds_toArray, List.set_cons_zero, List.set_cons_succ]
          refine wpAnyH_takeD 9 (some 47) (.slice none 0 0) rfl rfl (by kernel_rfl) (by kernel_rfl) (by kernel_rfl) (fun _ _ _ h => h) (Or.inl ⟨by rfl, fun w hSw => by obtain ⟨-, q0, q1⟩ := hSw; go_simp⟩) hS ?_
          simp only [Act.put, List.setIfInBounds_toArray, List.set_cons_zero, List.set_cons_succ]
          refine wpAnyH_takeD 10 (some 48) (.bool false) rfl rfl (by kernel_rfl) (by kernel_rfl) (by kernel_rfl) (fun _ _ _ h => h) (Or.inl ⟨by rfl, fun w hSw => by obtain ⟨-, q0, q1⟩ := hSw; go_simp⟩) hS ?_
          simp only [Act.put, List.setIfInBounds_toArray, List.set_cons_zero, List.set_cons_succ]
          refine wpAnyH_takeD 11 (some 8) (.slice none 0 0) rfl rfl (by kernel_rfl) (by kernel_rfl) (by kernel_rfl) (fun _ _ _ h => h) (Or.inl ⟨by rfl, fun w hSw => by obtain ⟨-, q0, q1⟩ := hSw; go_simp⟩) hS ?_
          simp only [Act.put, List.setIfInBounds_toArray, List.set_cons_zero, List.set_cons_succ]
          refine wpAnyH_takeD 12 (some 9) (.bool false) rfl rfl (by kernel_rfl) (by kernel_rfl) (by kernel_rfl) (fun _ _ _ h => h) (Or.inl ⟨by rfl, fun w hSw => by obtain ⟨-, q0, q1⟩ := hSw; go_simp⟩) hS ?_
          simp only [Act.put, List.setIfInBounds_toArray, List.set_cons_zero, List.set_cons_succ]
          refine wpAnyH_done (by kernel_rfl) ?_ _
          have HF := hide (unhide HNO _ ((unhide HB5).1.trans (hS.1.mono (unhide HB5).1.size)) (unhide HKF))
          clear hS a2 cL a0 a1
          go_wp2
          go_ret3
          exact unhide HF
      · have HF := hide (unhide HNO (x2.alloc (.cells #[.int .i64 (pkd tt), .int .i64 (pnm tt), .string (pbd tt)] 123)) ((unhide HB2).alloc (unhide HB2).size _) ((unhide HR).1.bad (fun q => hk2 q.2)))
        have k2b : (pkd tt != 2) = true := by simpa using hk2
        generalize pkd tt = kd at *
        generalize pnm tt = nm at *
        generalize pbd tt = bd at *
        obtain ⟨g4, hg4⟩ : ∃ xx, x2.heap.size = xx := ⟨_, rfl⟩
        obtain ⟨x4, hx4⟩ : ∃ xx, x2.alloc (.cells #[.int .i64 kd, .int .i64 nm, .string bd] 123) = xx := ⟨_, rfl⟩
        have B4 : Blk x4 g4 #[.int .i64 kd, .int .i64 nm, .string bd] 123 := by rw [← hx4, ← hg4]; exact Blk.new x2 _ _
        have a0 : x4.cell? ⟨g4, 0, none⟩ = some (.int .i64 kd) := B4.cell 0
        rw [hx4] at HF
        clear hk2 hok B4
        go_wp2
        go_ret3
        exact unhide HF
    · have HF := hide (unhide HNO (x2.alloc (.cells #[.int .i64 0, .int .i64 0, .string ⟨#[]⟩] 123)) ((unhide HB2).alloc (unhide HB2).size _) ((unhide HR).1.bad (fun q => hno q.1)))
      clear hno
      go_wp2
      go_ret3
      exact unhide HF
end Go.Proofs.YtffiaogbphgmgaaGreatDoor
