import Derived.Test.YtolblldpdgfkmaaDoorGpb
import Derived.Maps.AppendAt
import Derived.StillTailTactics
namespace Go.Proofs.YtolblldpdgfkmaaDoor
open Go.RowKit
set_option maxRecDepth 100000
theorem pMul_ok (a b : Nat) (ha : a < 256) (hb : b < 256) (w : World) : Calls Tryd.prog 15 #[.int .i64 (a : Int), .int .i64 (b : Int)] w fun e w' => e = .returned (.tuple #[.int .i64 (gm a b : Int), .int .i64 0]) ∧ w' = w := by
  have H1 := hide (fun W => pelem_any (a : Int) W)
  have H2 := hide (fun W => pelem_any (b : Int) W)
  rw [decide_eq_true (by omega : 0 ≤ (a : Int) ∧ (a : Int) < 256)] at H1
  rw [decide_eq_true (by omega : 0 ≤ (b : Int) ∧ (b : Int) < 256)] at H2
  have H3 := hide (fun W => prod_any a b ha hb W)
  have e1 : (a : Int) % 256 = (a : Int) := by omega
  have e2 : (b : Int) % 256 = (b : Int) := by omega
  have hlt := gm_lt a b ha hb
  generalize gm a b = c at *
  go_enter Tryd.func15, Tryd.ntmps15
  go_wp2_with fail
  refine (unhide H1 _).mono ?_
  rintro e w' ⟨rfl, hw'⟩
  subst w'
  go_wp2_with fail
  refine (unhide H2 _).mono ?_
  rintro e w' ⟨rfl, hw'⟩
  subst w'
  go_wp2_with fail
  refine (unhide H3 _).mono ?_
  rintro e w' ⟨rfl, hw'⟩
  subst w'
  go_wp2
  go_ret2
  exact ⟨rfl, rfl⟩
theorem pMul_bad (a b : Int) (h : ¬ (0 ≤ a ∧ a < 256) ∨ ¬ (0 ≤ b ∧ b < 256)) (w : World) : Calls Tryd.prog 15 #[.int .i64 a, .int .i64 b] w fun e w' => e = .returned (.tuple #[.int .i64 0, .int .i64 1]) ∧ w' = w := by
  have H1 := hide (fun W => pelem_any a W)
  have H2 := hide (fun W => pelem_any b W)
  by_cases h1 : 0 ≤ a ∧ a < 256
  · have h2 : ¬ (0 ≤ b ∧ b < 256) := by
      rcases h with q | q
      · exact absurd h1 q
      · exact q
    rw [decide_eq_true h1] at H1
    rw [decide_eq_false h2] at H2
    clear h h1 h2
    go_enter Tryd.func15, Tryd.ntmps15
    go_wp2_with fail
    refine (unhide H1 _).mono ?_
    rintro e w' ⟨rfl, hw'⟩
    subst w'
    go_wp2_with fail
    refine (unhide H2 _).mono ?_
    rintro e w' ⟨rfl, hw'⟩
    subst w'
    go_wp2
    go_ret2
    exact ⟨rfl, rfl⟩
  · rw [decide_eq_false h1] at H1
    clear h h1
    go_enter Tryd.func15, Tryd.ntmps15
    go_wp2_with fail
    refine (unhide H1 _).mono ?_
    rintro e w' ⟨rfl, hw'⟩
    subst w'
    go_wp2
    go_ret2
    exact ⟨rfl, rfl⟩
theorem pInv_ok (a : Nat) (ha : a < 256) (h0 : a ≠ 0) (w : World) : Calls Tryd.prog 16 #[.int .i64 (a : Int)] w fun e w' => e = .returned (.tuple #[.int .i64 (giv a : Int), .int .i64 0]) ∧ w' = w := by
  have H1 := hide (fun W => pelem_any (a : Int) W)
  rw [decide_eq_true (by omega : 0 ≤ (a : Int) ∧ (a : Int) < 256)] at H1
  have H3 := hide (fun W => pinverse_any a ha W)
  have e1 : (a : Int) % 256 = (a : Int) := by omega
  have e0 : ((a : Int) == 0) = false := by simp; omega
  have hlt := giv_lt a ha
  generalize giv a = c at *
  clear h0
  go_enter Tryd.func16, Tryd.ntmps16
  go_wp2_with fail
  refine (unhide H1 _).mono ?_
  rintro e w' ⟨rfl, hw'⟩
  subst w'
  go_wp2_with fail
  refine (unhide H3 _).mono ?_
  rintro e w' ⟨rfl, hw'⟩
  subst w'
  go_wp2
  go_ret2
  exact ⟨rfl, rfl⟩
theorem pInv_zero (w : World) : Calls Tryd.prog 16 #[.int .i64 0] w fun e w' => e = .returned (.tuple #[.int .i64 0, .int .i64 184]) ∧ w' = w := by
  have H1 := hide (fun W => pelem_any 0 W)
  rw [decide_eq_true (by omega : 0 ≤ (0 : Int) ∧ (0 : Int) < 256)] at H1
  go_enter Tryd.func16, Tryd.ntmps16
  go_wp2_with fail
  refine (unhide H1 _).mono ?_
  rintro e w' ⟨rfl, hw'⟩
  subst w'
  go_wp2
  go_ret2
  exact ⟨rfl, rfl⟩
theorem pInv_bad (a : Int) (h : ¬ (0 ≤ a ∧ a < 256)) (w : World) : Calls Tryd.prog 16 #[.int .i64 a] w fun e w' => e = .returned (.tuple #[.int .i64 0, .int .i64 1]) ∧ w' = w := by
  have H1 := hide (fun W => pelem_any a W)
  rw [decide_eq_false h] at H1
  clear h
  go_enter Tryd.func16, Tryd.ntmps16
  go_wp2_with fail
  refine (unhide H1 _).mono ?_
  rintro e w' ⟨rfl, hw'⟩
  subst w'
  go_wp2
  go_ret2
  exact ⟨rfl, rfl⟩
/-- a row of elements as bytes, in memory -/
def gW (n : Nat) (R : Nat → G) : List Value := (List.range n).map (fun k => Value.int .u8 ((R k).v : Int))
theorem gW_len (n : Nat) (R : Nat → G) : (gW n R).length = n := by simp [gW]
theorem gW_succ (n : Nat) (R : Nat → G) : gW (n + 1) R = gW n R ++ [.int .u8 ((R n).v : Int)] := by simp [gW, List.range_succ]
theorem gW_at {n : Nat} (R : Nat → G) {k : Nat} (hk : k < n) : (gW n R)[k]? = some (.int .u8 ((R k).v : Int)) := by simp [gW, hk]
theorem gW_congr {n : Nat} {R S : Nat → G} (h : ∀ k, k < n → R k = S k) : gW n R = gW n S := by
  unfold gW
  refine List.map_congr_left (fun k hk => ?_)
  rw [h k (List.mem_range.1 hk)]
theorem gW_set {n : Nat} (R : Nat → G) (k : Nat) (x : G) : (gW n R).set k (.int .u8 (x.v : Int)) = gW n (fun j => if j = k then x else R j) := by
  apply List.ext_getElem
  · simp [gW]
  · intro a b1 b2
    simp only [gW, List.getElem_map, List.getElem_range, List.getElem_set]
    by_cases q : k = a
    · rw [if_pos q, if_pos q.symm]
    · rw [if_neg q, if_neg (fun e => q e.symm)]
theorem gW_one (R : Nat → G) (n : Nat) : ∀ v, v ∈ gW n R → v.oneCell' := by
  intro v hv
  obtain ⟨k, _, rfl⟩ := List.mem_map.1 hv
  simp [Value.oneCell']
theorem grown_of_below {w w' : World} (h : Below w.heap.size w w') (r : Option Nat) : w.grownBy w' r := ⟨h.os, h.tape, h.output, h.size, fun k hk _ => h.block k hk⟩
theorem grown_drew1 (w : World) (r : Option Nat) : w.grownBy w.drew r := ⟨rfl, rfl, rfl, Nat.le_refl _, fun _ _ _ => rfl⟩
theorem below_of_grown {w w' : World} {r : Option Nat} (h : w.grownBy w' r) (B : Nat) (hB : B ≤ w.heap.size) (hr : ∀ k, r = some k → B ≤ k) : Below B w w' := (Below.refl B w).grown h hB hr
/-- elements as bytes at a place, in a block below B other than x -/
def GBs (w : World) (B x : Nat) (p : Option Addr) (m : Nat) (L : Nat → G) : Prop := ∀ k, k < m → ∃ g o, p = some ⟨g, o, none⟩ ∧ g < B ∧ g ≠ x ∧ w.cell? ⟨g, o + k, none⟩ = some (.int .u8 ((L k).v : Int))
/-- what addMultiple leaves -/
def AmQ (w : World) (b m gs cs : Nat) (S L : Nat → G) (c : G) (e : Ending) (w' : World) : Prop := e = .returned (.tuple #[]) ∧ w'.ownsRow b 5 1 (.slice (some ⟨gs, 0, none⟩) m cs) m (gW m (fun k => S k + L k * c)) ∧ w.grownBy w' (some gs)
structure AmI (w : World) (b m gs cs gt : Nat) (S L : Nat → G) (c : G) (k : Nat) (wr : World) : Prop where
  row : wr.ownsRow b 5 1 (.slice (some ⟨gs, 0, none⟩) m cs) m (gW m (fun q => if q < k then S q + L q * c else S q))
  grown : w.grownBy wr (some gs)
  tab : Arr wr gt 0 .u8 (mlL c.v 256)
theorem mid_all (S L : Nat → G) (c : G) (m : Nat) : gW m (fun q => if q < m then S q + L q * c else S q) = gW m (fun k => S k + L k * c) := gW_congr (fun _ hk => if_pos hk)
set_option maxHeartbeats 4000000 in
theorem amul_any (w : World) (b m gs cs cl : Nat) (pl : Option Addr) (S L : Nat → G) (c : G) (hS : w.ownsRow b 5 1 (.slice (some ⟨gs, 0, none⟩) m cs) m (gW m S)) (hL : GBs w w.heap.size gs pl m L) (hm : m ≤ 100000) : Calls Tryd.prog 56 #[.slice (some ⟨gs, 0, none⟩) m cs, .slice pl m cl, .int .u8 (c.v : Int)] w (AmQ w b m gs cs S L c) := by
  have hgs := (hS.lt gs rfl).2
  by_cases h0 : c.v = 0
  · have h0' : ((c.v : Int) == 0) = true := by simp; omega
    have HE := hide (show AmQ w b m gs cs S L c (.returned (.tuple #[])) w from ⟨rfl, by
      rw [gW_congr (S := S) (fun k _ => by rw [v_zero.1 h0, gmul_zero, gadd_zero])]
      exact hS, World.grownBy.refl _ _⟩)
    clear hS hL h0
    go_enter Tryd.func56, Tryd.ntmps56
    go_wp2
    exact ⟨rfl, .tuple #[], by simp [results, Tryd.f56], unhide HE⟩
  · have h0' : ((c.v : Int) == 0) = false := by simp; omega
    have HM := hide (mults_any c.v c.h w)
    have HS := hide (And.intro hS hL)
    obtain ⟨cv, hcv⟩ : ∃ q, c.v = q := ⟨_, rfl⟩
    rw [hcv] at HM h0' ⊢
    have HCV := hide hcv
    clear hS hL h0 hcv
    go_enter Tryd.func56, Tryd.ntmps56
    go_wp2_with fail
    refine (unhide HM).mono ?_
    rintro e w1 ⟨rfl, hb1⟩
    have hs1 := hb1.size
    have HT := hide (show (w1.alloc (.cells Tryd.zeroCells102 102)).there w1.heap.size 0 ((mlL cv 256).map (Value.int .u8)).toArray.size from by
      have := (arr_new w1 .u8 (List.replicate 256 0) 102 _ zeroM).there
      rw [List.length_replicate] at this
      have e : ((mlL cv 256).map (Value.int .u8)).toArray.size = 256 := by simp [mlL]
      rw [e]
      exact this)
    have HST := hide (show ∀ W, W = (w1.alloc (.cells Tryd.zeroCells102 102)).setCells w1.heap.size 0 ((mlL cv 256).map (Value.int .u8)).toArray.toList → AmI w b m gs cs w1.heap.size S L c 0 W from fun W hW => by
      subst hW
      rw [List.toList_toArray]
      have a1 := (arr_new w1 .u8 (List.replicate 256 0) 102 _ zeroM).setCells (mlL cv 256) (by rw [mlL_len, List.length_replicate])
      have g1 : Below w.heap.size w ((w1.alloc (.cells Tryd.zeroCells102 102)).setCells w1.heap.size 0 ((mlL cv 256).map (Value.int .u8))) := below_setCells hs1 _ _ (hb1.alloc hs1 _)
      have e0 : gW m (fun q => if q < 0 then S q + L q * c else S q) = gW m S := gW_congr (fun k _ => if_neg (by omega))
      refine ⟨?_, grown_of_below g1 _, by rw [unhide HCV]; exact a1⟩
      rw [e0]
      exact owns_only (unhide HS).1 (Only.of_below (P := fun _ => False) g1) (fun _ _ q => q))
    clear hb1 HM
    have hml := mlL_len cv 256
    obtain ⟨M, hM⟩ : ∃ M, mlL cv 256 = M := ⟨_, rfl⟩
    rw [hM] at HT HST hml ⊢
    have HMM := hide hM
    have HML := hide hml
    clear hM hml
    go_wp2_with (refine wpList_store_to rfl 102 (.tmp 6) (.tmp 12) rfl w1.heap.size 0 _ rfl rfl (unhide HT) (by rw [sizeM]; simp [unhide HML]) (one_ints _ _) ?_; intro W2 hW2; have HI0 := hide (unhide HST W2 hW2); clear hW2 HST)
    clear HT
    obtain ⟨gt, hgt⟩ : ∃ q, w1.heap.size = q := ⟨_, rfl⟩
    rw [hgt] at HI0 hs1 ⊢
    have hgg : gs ≠ gt := by omega
    have HGT := hide hs1
    clear hgt hs1
    go_wp2
    go_loopw [15] (fun i wr => ∃ k : Nat, k ≤ m ∧ i = .int .i64 (k : Int) ∧ Hid (AmI w b m gs cs gt S L c k wr)) (fun i _ => m - (intOf i).toNat)
    case atStart => exact ⟨0, by omega, rfl, HI0⟩
    case round =>
    obtain ⟨k, hk, rfl, HI⟩ := hrel
    clear HI0
    by_cases hkm : k < m
    case neg =>
      obtain rfl : k = m := by omega
      have hkn' : ¬ (k : Int) < (k : Int) := by omega
      have HE := hide (show AmQ w b k gs cs S L c (.returned (.tuple #[])) wr from ⟨rfl, by rw [← mid_all]; exact (unhide HI).row, (unhide HI).grown⟩)
      clear HI
      go_wp2
      exact ⟨rfl, .tuple #[], by simp [results, Tryd.f56], unhide HE⟩
    have hkm' : (k : Int) < (m : Int) := by omega
    obtain ⟨gl, ol, rfl, hgl, hgl2, hcl0⟩ := (unhide HS).2 k hkm
    have hcl : wr.cell? ⟨gl, ol + k, none⟩ = some (.int .u8 ((L k).v : Int)) := ((unhide HI).grown.cell_far ⟨gl, ol + k, none⟩ hgl (by intro q; injection q with q; exact hgl2 q)).trans hcl0
    obtain ⟨ga, ea, hca, hfa, _, _⟩ := gr_cell (unhide HI).row k hkm
    obtain rfl : ga = gs := by injection ea with e; injection e with e; exact e.symm
    rw [gW_at _ hkm, if_neg (by omega)] at hca
    have hlk := (L k).h
    have hct := (unhide HI).tab.get0 (L k).v (by rw [mlL_len]; exact hlk)
    rw [mlL_get _ _ _ hlk, if_pos hlk] at hct
    have hpl : gm c.v (L k).v < 256 := gm_lt _ _ c.h hlk
    have hsk := (S k).h
    have hxr := xor8q (S k).v (gm c.v (L k).v) hsk hpl
    have hz : gm c.v (L k).v = (L k * c).v := by rw [gmul_comm]; rfl
    have hnew : (S k).v ^^^ gm c.v (L k).v = (S k + L k * c).v := by rw [hz]; rfl
    have HP := hide (show AmI w b m ga cs gt S L c (k + 1) (wr.drew.setCell ⟨ga, k, none⟩ (.int .u8 (((S k).v ^^^ gm c.v (L k).v : Nat) : Int))) from by
      have hr := (unhide HI).row.drew.stored k (.int .u8 (((S k).v ^^^ gm c.v (L k).v : Nat) : Int))
      refine ⟨?_, (unhide HI).grown.trans ((grown_drew1 _ _).trans hr.2), ((unhide HI).tab.drew).other _ _ (.inl hgg)⟩
      have e : (gW m (fun q => if q < k then S q + L q * c else S q)).set k (.int .u8 (((S k).v ^^^ gm c.v (L k).v : Nat) : Int)) = gW m (fun q => if q < k + 1 then S q + L q * c else S q) := by
        rw [hnew, gW_set]
        refine gW_congr (fun q _ => ?_)
        by_cases e1 : q = k
        · rw [if_pos e1, if_pos (by omega), e1]
        · rw [if_neg e1]
          by_cases e2 : q < k
          · rw [if_pos e2, if_pos (by omega)]
          · rw [if_neg e2, if_neg (by omega)]
      rw [← e]
      exact hr.1)
    obtain ⟨lk, hlk2⟩ : ∃ q, (L k).v = q := ⟨_, rfl⟩
    rw [hlk2] at hcl hct hxr hpl HP hlk
    obtain ⟨pv, hpv⟩ : ∃ q, gm c.v lk = q := ⟨_, rfl⟩
    rw [hpv] at hct hxr hpl HP
    obtain ⟨sv, hsv⟩ : ∃ q, (S k).v = q := ⟨_, rfl⟩
    rw [hsv] at hca hxr HP hsk
    clear hnew hz hlk2 hpv hsv ea hcl0 HI
    have i0 : 0 ≤ (k : Int) := by omega
    have i1 : 0 ≤ (lk : Int) := by omega
    have i2 : (lk : Int) < 256 := by omega
    go_wp2_with fail
    go_still_tail 9, (by kernel_rfl)
    change wpList _ _ _ _ _ wr.drew
    go_wp2
    go_roundw
    case rel => exact ⟨k + 1, by omega, by go_num, HP⟩
    case measure => simp [intOf] <;> omega
end Go.Proofs.YtolblldpdgfkmaaDoor
