import Derived.Test.YtiellebdliifdaaGreatDoorMt08
import Derived.Test.YtiellebdliifdaaGreatDoorMt04
namespace Go.Proofs.YtiellebdliifdaaGreatDoor
open Go.RowKit
def Lf0 : Nat → Nat := fun _ => 0
theorem trC_new (r num : Int) : (trC r num Lf0).toArray = #[.int .i64 r, .int .i64 num, .int .i64 0, .int .i64 0, .int .i64 0, .int .i64 0, .int .i64 0, .int .i64 0, .int .i64 0, .int .i64 0, .int .i64 0, .int .i64 0, .int .i64 0, .int .i64 0, .int .i64 0, .int .i64 0, .int .i64 0, .int .i64 0, .int .i64 0, .int .i64 0, .int .i64 0, .int .i64 0] := rfl
set_option maxRecDepth 100000 in
set_option maxHeartbeats 2000000 in
theorem newTree_any (a v : Nat) (ha : a ≤ 8) (hv : v ≤ 99) (w : World) : Calls Tryz.prog 49 #[.int .i64 (a : Int), .int .i64 (v : Int)] w fun e w' => e = .returned (.agg (trC 0 ((100 * a + v : Nat) : Int) Lf0).toArray) ∧ Below w.heap.size w w' := by
 obtain ⟨g, hg⟩ : ∃ g, w.heap.size = g := ⟨_, rfl⟩
 have e1 : 100 * (a : Int) + (v : Int) = ((100 * a + v : Nat) : Int) := by omega
 have h2 : 100 * a + v ≤ 1000 := by omega
 generalize 100 * a + v = q at *
 have HE := hide (trC_new 0 (q : Int))
 have hyl := trC_len 0 (q : Int) Lf0
 have hyo := trC_one 0 (q : Int) Lf0
 generalize trC 0 (q : Int) Lf0 = ys at *
 obtain ⟨x2, hx2⟩ : ∃ q, w.alloc (.cells #[.int .i64 0, .int .i64 0, .int .i64 0, .int .i64 0, .int .i64 0, .int .i64 0, .int .i64 0, .int .i64 0, .int .i64 0, .int .i64 0, .int .i64 0, .int .i64 0, .int .i64 0, .int .i64 0, .int .i64 0, .int .i64 0, .int .i64 0, .int .i64 0, .int .i64 0, .int .i64 0, .int .i64 0, .int .i64 0] 69) = q := ⟨_, rfl⟩
 have BZ : Blk x2 g #[.int .i64 0, .int .i64 0, .int .i64 0, .int .i64 0, .int .i64 0, .int .i64 0, .int .i64 0, .int .i64 0, .int .i64 0, .int .i64 0, .int .i64 0, .int .i64 0, .int .i64 0, .int .i64 0, .int .i64 0, .int .i64 0, .int .i64 0, .int .i64 0, .int .i64 0, .int .i64 0, .int .i64 0, .int .i64 0] 69 := by rw [← hx2, ← hg]; exact Blk.new w _ _
 have hb : Below g w x2 := by rw [← hx2, ← hg]; exact (Below.refl _ w).alloc (Nat.le_refl _) _
 have TH := hide (blk_there BZ ys.toArray.size (by simp [hyl]))
 have B4 := setCells_all BZ ys (by simp [hyl])
 have HLD := hide (iload_blk 69 _ B4 Tryz.underlying69 rfl (by rw [sizeTree]; simp [hyl]))
 have HB4 := hide (below_setCells (Nat.le_refl _) ys 0 hb)
 have HYL := hide hyl
 have HYO := hide hyo
 clear hyl hyo BZ hb B4
 rw [hg]
 go_enter Tryz.func49, Tryz.ntmps49
 go_wp2_with (refine wpList_store_mid rfl 69 (.tmp 4) (.tmp 9) rfl g 0 ys.toArray rfl (by rw [unhide HE]; rfl) (unhide TH) (by rw [sizeTree]; simp [unhide HYL]) (unhide HYO) ?_)
 refine bodyPost_ret (v := .agg ys.toArray) (results_cell rfl _ _ _ ⟨g, 0, none⟩ rfl _ (unhide HLD)) rfl ⟨rfl, unhide HB4⟩
theorem lv_err (lf : Nat → Nat) (h : ∀ l, l < 20 → lf l ≤ 1000) : errN 2 (lvL lf) = 0 := by
 rw [errN, if_neg (by omega), if_pos]
 intro n hn
 simp only [lvL, List.mem_map, List.mem_range] at hn
 obtain ⟨l, hl, rfl⟩ := hn
 exact fits2n _ (by have := h l hl; omega)
set_option maxRecDepth 100000 in
set_option maxHeartbeats 2000000 in
theorem tPage_any (r : Int) (num : Nat) (lf : Nat → Nat) (hlf : ∀ l, l < 20 → lf l ≤ 1000) (w : World) : Calls Tryz.prog 50 #[.agg (trC r (num : Int) lf).toArray] w fun e w' => e = .returned (.agg #[.int .i64 6, .int .i64 (num : Int), .string (rtB lf)]) ∧ Below w.heap.size w w' := by
 obtain ⟨g, hg⟩ : ∃ g, w.heap.size = g := ⟨_, rfl⟩
 have hx1 := trC_1 r (num : Int) lf
 have HAT := hide (fun l (hl : l < 20) => trC_at r (num : Int) lf l hl)
 have HER := hide (lv_err lf hlf)
 have HTX := hide (show strOfNums (outN (2 : Int).toNat (lvL lf)) = rtB lf from rfl)
 obtain ⟨tx, htx⟩ : ∃ q, rtB lf = q := ⟨_, rfl⟩
 rw [htx] at HTX ⊢
 clear htx
 generalize (trC r (num : Int) lf).toArray = xs at *
 obtain ⟨x2, hx2⟩ : ∃ q, (w.alloc (.cells xs 69)).alloc (.cells #[.int .i64 0, .int .i64 0, .string ⟨#[]⟩] 95) = q := ⟨_, rfl⟩
 have B : Blk x2 g xs 69 := by rw [← hx2, ← hg]; exact (Blk.new w _ _).alloc _
 have BZ : Blk x2 (g + 1) #[.int .i64 0, .int .i64 0, .string ⟨#[]⟩] 95 := by
  rw [← hx2]
  have := Blk.new (w.alloc (.cells xs 69)) 95 #[.int .i64 0, .int .i64 0, .string ⟨#[]⟩]
  rw [show (w.alloc (.cells xs 69)).heap.size = g + 1 by simp [hg]] at this
  exact this
 have hb : Below g w x2 := by rw [← hx2, ← hg]; exact ((Below.refl _ w).alloc (Nat.le_refl _) _).alloc (by simp) _
 have X2 := hide (And.intro B (And.intro BZ (And.intro hb hx1)))
 clear B BZ hb hx1 hlf
 rw [hg]
 go_enter Tryz.func50, Tryz.ntmps50
 go_wp2_with fail
 refine (newWriter_any _).mono ?_
 rintro e x3 ⟨rfl, hW3, hb3, hs3⟩
 obtain ⟨B, BZ, hb, hx1⟩ := unhide X2
 have B3 := B.below hb3 B.lt
 have BZ3 := BZ.below hb3 BZ.lt
 have hb13 : Below g w x3 := hb.trans (hb3.mono (by have := BZ.lt; omega))
 obtain ⟨bw, hbw⟩ : ∃ q, x2.heap.size = q := ⟨_, rfl⟩
 rw [hbw] at hW3
 have hgb : g ≠ bw ∧ g + 1 ≠ bw ∧ g ≤ bw := by have := BZ.lt; omega
 have HN := hide (num_any x3 bw bw (.slice none 0 0) [] 0 hW3 (by have := hb3.size; omega) 2 (lvL lf) (some ⟨g, 2, none⟩) 20 (.inr ⟨g, 2, rfl, B3.lt, fun q => (by rcases q with q | q; exact hgb.1 q; cases q), fun j hj => by rw [B3.cell, unhide HAT j (by rw [lvL_len] at hj; exact hj), lvL_at lf j (by rw [lvL_len] at hj; exact hj)]⟩) (by rw [lvL_len]; decide))
 rw [lvL_len, unhide HER, wl_good, we_good, List.nil_append] at HN
 rw [hbw]
 have X3 := hide (And.intro B3 (And.intro BZ3 (And.intro hb13 (And.intro hx1 hgb))))
 clear B BZ hb hx1 hb3 hs3 hbw B3 BZ3 hb13 hgb X2 hW3 hx2
 go_wp2_with fail
 refine (unhide HN).mono ?_
 rintro e x4 ⟨rfl, hP4⟩
 obtain ⟨B3, BZ3, hb13, hx1, hgb⟩ := unhide X3
 have hP := hP4
 obtain ⟨v4, W4, O4, -⟩ := hP4
 have hFp : ∀ k, k ≠ bw → ¬ Fp bw (.slice none 0 0) k := fun k hk q => by rcases q with q | q; exact hk q; cases q
 have B4 := B3.only O4 (hFp _ hgb.1)
 have BZ4 := BZ3.only O4 (hFp _ hgb.2.1)
 have hb14 : Below g w x4 := hb13.trans (O4.below (by have := B3.lt; omega) (fun k hk => hFp k (by omega)))
 have HD := hide (done_any x4 bw bw v4 _ 0 W4)
 rw [unhide HTX] at HD
 have X4 := hide (And.intro B4 (And.intro BZ4 (And.intro hb14 (And.intro hx1 hgb))))
 clear B3 BZ3 hb13 hx1 hgb hP W4 O4 hFp B4 BZ4 hb14 X3 HN
 go_wp2_with fail
 refine (unhide HD).mono ?_
 rintro e x5 ⟨rfl, hb5⟩
 obtain ⟨B4, BZ4, hb14, hx1, hgb⟩ := unhide X4
 have B5 := B4.below hb5 B4.lt
 have BZ5 := BZ4.below hb5 BZ4.lt
 have hb15 : Below g w x5 := hb14.trans (hb5.mono (by have := B4.lt; omega))
 have c1 : x5.cell? ⟨g, 1, none⟩ = some (.int .i64 (num : Int)) := by rw [B5.cell]; exact hx1
 have q0 : x5.cell? ⟨g + 1, 0, none⟩ = some (.int .i64 0) := BZ5.cell 0
 have q1 : x5.cell? ⟨g + 1, 1, none⟩ = some (.int .i64 0) := BZ5.cell 1
 have q2 : x5.cell? ⟨g + 1, 2, none⟩ = some (.string ⟨#[]⟩) := BZ5.cell 2
 have p0 := BZ5.frozen 0
 have p1 := BZ5.frozen 1
 have p2 := BZ5.frozen 2
 have B6 := ((BZ5.set 0 (.int .i64 6)).set 1 (.int .i64 (num : Int))).set 2 (.string tx)
 have HLD := hide (load_page _ (g + 1) 6 (num : Int) tx B6)
 have HB6 := hide (((hb15.setCell (p := ⟨g + 1, 0, none⟩) (Nat.le_succ _) (.int .i64 6)).setCell (p := ⟨g + 1, 1, none⟩) (Nat.le_succ _) (.int .i64 (num : Int))).setCell (p := ⟨g + 1, 2, none⟩) (Nat.le_succ _) (.string tx))
 clear B4 BZ4 hb14 hx1 hgb hb5 B5 BZ5 hb15 B6 X4 HD
 go_wp2
 exact bodyPost_ret (v := .agg #[.int .i64 6, .int .i64 (num : Int), .string tx]) (results_cell rfl _ _ _ ⟨g + 1, 0, none⟩ rfl _ (unhide HLD)) rfl ⟨rfl, unhide HB6⟩
def cutL (lf : Nat → Nat) (k : Nat) : Nat → Nat := fun l => if l < k then lf l else 0
theorem cutL_0 (lf : Nat → Nat) : cutL lf 0 = Lf0 := by funext l; simp [cutL, Lf0]
theorem cutL_succ (lf : Nat → Nat) (k : Nat) : ups (cutL lf k) k (lf k) = cutL lf (k + 1) := by
 funext l
 unfold ups cutL
 by_cases e : l = k
 ·subst e; rw [if_pos rfl, if_pos (by omega)]
 ·rw [if_neg e]
  by_cases h : l < k
  ·rw [if_pos h, if_pos (by omega)]
  ·rw [if_neg h, if_neg (by omega)]
theorem trC_congr (r num : Int) (f g : Nat → Nat) (h : ∀ l, l < 20 → f l = g l) : trC r num f = trC r num g := by
 unfold trC lvL
 rw [show (List.range 20).map (fun l => (f l : Int)) = (List.range 20).map (fun l => (g l : Int)) from List.map_congr_left (fun l hl => by rw [h l (List.mem_range.1 hl)])]
theorem trC_cut (r num : Int) (lf : Nat → Nat) : trC r num (cutL lf 20) = trC r num lf := trC_congr _ _ _ _ (fun l hl => by unfold cutL; rw [if_pos hl])
def VTr (w : World) (g b : Nat) (r : Int) (num : Nat) (lf : Nat → Nat) (k : Nat) (wr : World) : Prop :=
 Blk wr (g + 1) #[.int .i64 0, .int .i64 0, .int .i64 0, .int .i64 0, .int .i64 0, .int .i64 0, .int .i64 0, .int .i64 0, .int .i64 0, .int .i64 0, .int .i64 0, .int .i64 0, .int .i64 0, .int .i64 0, .int .i64 0, .int .i64 0, .int .i64 0, .int .i64 0, .int .i64 0, .int .i64 0, .int .i64 0, .int .i64 0] 69 ∧ Blk wr (g + 2) (trC r (num : Int) (cutL lf k)).toArray 69 ∧ Rds wr b ⟨strOfNums (rtT lf k), 2 * (k : Int), 0⟩ ∧ Below g w wr
set_option maxRecDepth 100000 in
set_option maxHeartbeats 2000000 in
theorem parseTree_any (r kind : Int) (num : Nat) (hnum : num ≤ 1000000) (lf : Nat → Nat) (hlf : ∀ l, l < 20 → lf l ≤ 1000) (w : World) (hE : ETy w) : Calls Tryz.prog 95 #[.int .i64 r, .agg #[.int .i64 kind, .int .i64 (num : Int), .string (rtB lf)]] w fun e w' => e = .returned (.agg (trC r (num : Int) lf).toArray) ∧ Below w.heap.size w w' := by
 obtain ⟨g, hg⟩ : ∃ g, w.heap.size = g := ⟨_, rfl⟩
 have HTX := hide (show rtB lf = strOfNums (rtT lf 0) from rfl)
 obtain ⟨tx, htx⟩ : ∃ q, rtB lf = q := ⟨_, rfl⟩
 rw [htx] at HTX ⊢
 clear htx
 have HE0 := hide (trC_new r (num : Int))
 have hyl := trC_len r (num : Int) Lf0
 have hyo := trC_one r (num : Int) Lf0
 have HC0 := hide (show trC r (num : Int) (cutL lf 0) = trC r (num : Int) Lf0 by rw [cutL_0])
 obtain ⟨ys, hys⟩ : ∃ q, trC r (num : Int) Lf0 = q := ⟨_, rfl⟩
 rw [hys] at HE0 hyl hyo HC0
 clear hys
 obtain ⟨x2, hx2⟩ : ∃ q, ((w.alloc (.cells #[.int .i64 kind, .int .i64 (num : Int), .string tx] 95)).alloc (.cells #[.int .i64 0, .int .i64 0, .int .i64 0, .int .i64 0, .int .i64 0, .int .i64 0, .int .i64 0, .int .i64 0, .int .i64 0, .int .i64 0, .int .i64 0, .int .i64 0, .int .i64 0, .int .i64 0, .int .i64 0, .int .i64 0, .int .i64 0, .int .i64 0, .int .i64 0, .int .i64 0, .int .i64 0, .int .i64 0] 69)).alloc (.cells #[.int .i64 0, .int .i64 0, .int .i64 0, .int .i64 0, .int .i64 0, .int .i64 0, .int .i64 0, .int .i64 0, .int .i64 0, .int .i64 0, .int .i64 0, .int .i64 0, .int .i64 0, .int .i64 0, .int .i64 0, .int .i64 0, .int .i64 0, .int .i64 0, .int .i64 0, .int .i64 0, .int .i64 0, .int .i64 0] 69) = q := ⟨_, rfl⟩
 have hs1 : (w.alloc (.cells #[.int .i64 kind, .int .i64 (num : Int), .string tx] 95)).heap.size = g + 1 := by simp [hg]
 have hs2 : ((w.alloc (.cells #[.int .i64 kind, .int .i64 (num : Int), .string tx] 95)).alloc (.cells #[.int .i64 0, .int .i64 0, .int .i64 0, .int .i64 0, .int .i64 0, .int .i64 0, .int .i64 0, .int .i64 0, .int .i64 0, .int .i64 0, .int .i64 0, .int .i64 0, .int .i64 0, .int .i64 0, .int .i64 0, .int .i64 0, .int .i64 0, .int .i64 0, .int .i64 0, .int .i64 0, .int .i64 0, .int .i64 0] 69)).heap.size = g + 2 := by simp; omega
 have B : Blk x2 g #[.int .i64 kind, .int .i64 (num : Int), .string tx] 95 := by rw [← hx2, ← hg]; exact ((Blk.new w _ _).alloc _).alloc _
 have BZ : Blk x2 (g + 1) #[.int .i64 0, .int .i64 0, .int .i64 0, .int .i64 0, .int .i64 0, .int .i64 0, .int .i64 0, .int .i64 0, .int .i64 0, .int .i64 0, .int .i64 0, .int .i64 0, .int .i64 0, .int .i64 0, .int .i64 0, .int .i64 0, .int .i64 0, .int .i64 0, .int .i64 0, .int .i64 0, .int .i64 0, .int .i64 0] 69 := by
  rw [← hx2, ← hs1]
  exact (Blk.new (w.alloc (.cells #[.int .i64 kind, .int .i64 (num : Int), .string tx] 95)) 69 #[.int .i64 0, .int .i64 0, .int .i64 0, .int .i64 0, .int .i64 0, .int .i64 0, .int .i64 0, .int .i64 0, .int .i64 0, .int .i64 0, .int .i64 0, .int .i64 0, .int .i64 0, .int .i64 0, .int .i64 0, .int .i64 0, .int .i64 0, .int .i64 0, .int .i64 0, .int .i64 0, .int .i64 0, .int .i64 0]).alloc _
 have BY : Blk x2 (g + 2) #[.int .i64 0, .int .i64 0, .int .i64 0, .int .i64 0, .int .i64 0, .int .i64 0, .int .i64 0, .int .i64 0, .int .i64 0, .int .i64 0, .int .i64 0, .int .i64 0, .int .i64 0, .int .i64 0, .int .i64 0, .int .i64 0, .int .i64 0, .int .i64 0, .int .i64 0, .int .i64 0, .int .i64 0, .int .i64 0] 69 := by
  rw [← hx2, ← hs2]
  exact Blk.new ((w.alloc (.cells #[.int .i64 kind, .int .i64 (num : Int), .string tx] 95)).alloc (.cells #[.int .i64 0, .int .i64 0, .int .i64 0, .int .i64 0, .int .i64 0, .int .i64 0, .int .i64 0, .int .i64 0, .int .i64 0, .int .i64 0, .int .i64 0, .int .i64 0, .int .i64 0, .int .i64 0, .int .i64 0, .int .i64 0, .int .i64 0, .int .i64 0, .int .i64 0, .int .i64 0, .int .i64 0, .int .i64 0] 69)) 69 #[.int .i64 0, .int .i64 0, .int .i64 0, .int .i64 0, .int .i64 0, .int .i64 0, .int .i64 0, .int .i64 0, .int .i64 0, .int .i64 0, .int .i64 0, .int .i64 0, .int .i64 0, .int .i64 0, .int .i64 0, .int .i64 0, .int .i64 0, .int .i64 0, .int .i64 0, .int .i64 0, .int .i64 0, .int .i64 0]
 have hb : Below g w x2 := by rw [← hx2, ← hg]; exact (((Below.refl _ w).alloc (Nat.le_refl _) _).alloc (by simp) _).alloc (by simp; omega) _
 clear hs1 hs2
 have TH := hide (blk_there BY ys.toArray.size (by simp [hyl]))
 obtain ⟨x3, hx3⟩ : ∃ q, x2.setCells (g + 2) 0 ys = q := ⟨_, rfl⟩
 have B3 : Blk x3 g #[.int .i64 kind, .int .i64 (num : Int), .string tx] 95 := by rw [← hx3]; exact blk_cells_other _ _ B _ (by omega)
 have BZ3 : Blk x3 (g + 1) #[.int .i64 0, .int .i64 0, .int .i64 0, .int .i64 0, .int .i64 0, .int .i64 0, .int .i64 0, .int .i64 0, .int .i64 0, .int .i64 0, .int .i64 0, .int .i64 0, .int .i64 0, .int .i64 0, .int .i64 0, .int .i64 0, .int .i64 0, .int .i64 0, .int .i64 0, .int .i64 0, .int .i64 0, .int .i64 0] 69 := by rw [← hx3]; exact blk_cells_other _ _ BZ _ (by omega)
 have BY3 : Blk x3 (g + 2) ys.toArray 69 := by rw [← hx3]; exact setCells_all BY ys (by simp [hyl])
 have hb3 : Below g w x3 := by rw [← hx3]; exact below_setCells (by omega) ys 0 hb
 have c1 : x2.cell? ⟨g, 1, none⟩ = some (.int .i64 (num : Int)) := by rw [B.cell]; rfl
 have c2 : x3.cell? ⟨g, 2, none⟩ = some (.string tx) := by rw [B3.cell]; rfl
 have HYL := hide hyl
 have HYO := hide hyo
 have X3 := hide (And.intro BZ3 (And.intro BY3 hb3))
 have HQ := hide (And.intro hlf hnum)
 have HEW := hide (fun W (h : Below g w W) => hE.below h (by rw [← hg]; exact hE.lt))
 have c1' : (((w.alloc (.cells #[.int .i64 kind, .int .i64 (num : Int), .string tx] 95)).alloc (.cells #[.int .i64 0, .int .i64 0, .int .i64 0, .int .i64 0, .int .i64 0, .int .i64 0, .int .i64 0, .int .i64 0, .int .i64 0, .int .i64 0, .int .i64 0, .int .i64 0, .int .i64 0, .int .i64 0, .int .i64 0, .int .i64 0, .int .i64 0, .int .i64 0, .int .i64 0, .int .i64 0, .int .i64 0, .int .i64 0] 69))).cell? ⟨g, 1, none⟩ = some (.int .i64 (num : Int)) := by
  have : Blk ((w.alloc (.cells #[.int .i64 kind, .int .i64 (num : Int), .string tx] 95)).alloc (.cells #[.int .i64 0, .int .i64 0, .int .i64 0, .int .i64 0, .int .i64 0, .int .i64 0, .int .i64 0, .int .i64 0, .int .i64 0, .int .i64 0, .int .i64 0, .int .i64 0, .int .i64 0, .int .i64 0, .int .i64 0, .int .i64 0, .int .i64 0, .int .i64 0, .int .i64 0, .int .i64 0, .int .i64 0, .int .i64 0] 69)) g #[.int .i64 kind, .int .i64 (num : Int), .string tx] 95 := by rw [← hg]; exact (Blk.new w _ _).alloc _
  rw [this.cell]; rfl
 clear hyl hyo B BZ BY hb B3 BZ3 BY3 hb3 hE hlf hnum c1
 rw [hg]
 go_enter Tryz.func95, Tryz.ntmps95
 go_wp2_with (refine wpList_store_mid rfl 69 (.tmp 5) (.tmp 11) rfl (g + 2) 0 ys.toArray rfl (by rw [unhide HE0]; rfl) (unhide TH) (by rw [sizeTree]; simp [unhide HYL]) (unhide HYO) ?_)
 clear TH hx2 c1'
 refine (newReader_any tx _).mono ?_
 rintro e x4 ⟨rfl, hR4, hb4, hs4⟩
 obtain ⟨BZ3, BY3, hb3⟩ := unhide X3
 obtain ⟨b, hbq⟩ : ∃ q, x3.heap.size = q := ⟨_, rfl⟩
 have hgb : g + 2 < b := by rw [← hbq]; exact BY3.lt
 rw [hbq] at hR4 ⊢
 have HI := hide (show VTr w g b r num lf 0 x4 from ⟨BZ3.below hb4 BZ3.lt, by rw [unhide HC0]; exact BY3.below hb4 BY3.lt, by rw [unhide HTX] at hR4; exact hR4, hb3.trans (hb4.mono (by omega))⟩)
 clear BZ3 BY3 hb3 hR4 hb4 hs4 X3 hbq c2 hx3 HC0 HTX
 go_wp2
 go_loopw [15, 7] (fun i j wr => ∃ k : Nat, k ≤ 20 ∧ i = .int .i64 (k : Int) ∧ VTr w g b r num lf k wr) (fun i _ _ => 20 - (intOf i).toNat)
 case atStart => exact ⟨0, by omega, rfl, unhide HI⟩
 case round =>
  obtain ⟨k, hk, rfl, hI⟩ := hrel
  by_cases hkn : k < 20
  ·have hkn' : (k : Int) < 20 := by omega
   have hk0 : (0 : Int) ≤ (k : Int) := by omega
   obtain ⟨I1, I2, I3, I4⟩ := hI
   have I5 := unhide HEW wr I4
   rw [rtT_step lf k hkn] at I3
   have HN := hide (rnumK I3 I5 (by decide) (by decide) (fits2n _ (by have := (unhide HQ).1 k hkn; omega)) (by have := (unhide HQ).1 k hkn; omega) (rtT_bytes lf (k + 1)) (by omega) (by rw [rtT_len lf (k + 1) (by omega)]; omega) 2 rfl (2 * ((k + 1 : Nat) : Int)) (by omega))
   have HI5 := hide (And.intro I1 (And.intro I2 I4))
   clear I1 I2 I3 I4 I5
   go_wp2_with fail
   refine (unhide HN).mono ?_
   rintro e y1 ⟨rfl, hR1, hO1⟩
   obtain ⟨I1, I2, I4⟩ := unhide HI5
   have J1 := I1.only hO1 (by omega)
   have J2 := I2.only hO1 (by omega)
   have c : y1.cell? ⟨g + 2, 2 + k, none⟩ = some (.int .i64 ((cutL lf k) k : Int)) := by rw [J2.cell, trC_at _ _ _ k hkn]
   have cf := J2.frozen (2 + k)
   have HI6 := hide (show VTr w g b r num lf (k + 1) (y1.setCell ⟨g + 2, 2 + k, none⟩ (.int .i64 (lf k : Int))) from ⟨J1.other _ _ (by simp), by have := J2.set (2 + k) (.int .i64 (lf k : Int)); rwa [trC_set _ _ _ k hkn, cutL_succ] at this, Blk.other hR1 _ _ (by show g + 2 ≠ b; omega), (I4.trans (hO1.below (by have := I2.lt; omega) (fun x hx => by omega))).setCell (by show g ≤ g + 2; omega) _⟩)
   clear I1 I2 I4 J1 J2 hR1 hO1 HI5 HN
   go_wp2
   go_roundw
   case rel => exact ⟨k + 1, by omega, by go_num, unhide HI6⟩
   case measure => simp [intOf]; omega
  ·have hke : k = 20 := by omega
   have hkn' : ¬ (k : Int) < 20 := by omega
   obtain ⟨I1, I2, I3, I4⟩ := hI
   have I2' : Blk wr (g + 2) (trC r (num : Int) lf).toArray 69 := by rw [hke, trC_cut] at I2; exact I2
   have hzl := trC_len r (num : Int) lf
   have hzo := trC_one r (num : Int) lf
   obtain ⟨zs, hzs⟩ : ∃ q, trC r (num : Int) lf = q := ⟨_, rfl⟩
   rw [hzs] at I2' hzl hzo
   have HZS := hide hzs
   have R3 := hide (blk_range I2')
   have TH := hide (blk_there I1 zs.toArray.size (by simp [hzl]))
   have B4 := setCells_all I1 zs (by simp [hzl])
   have HLD := hide (iload_blk 69 _ B4 Tryz.underlying69 rfl (by rw [sizeTree]; simp [hzl]))
   have HB4 := hide (below_setCells (Nat.le_succ _) zs 0 I4)
   have HZL := hide hzl
   have HZO := hide hzo
   clear I1 I2 I3 I4 I2' hzl hzo B4 hzs hke
   go_wp2_with (first | refine wpList_load_mid rfl 69 (.tmp 5) rfl (g + 2) 0 rfl _ _ (unhide R3) Tryz.underlying69 rfl (by rw [sizeTree, unhide HZL]) ?_ | refine wpList_store_mid rfl 69 (.tmp 4) (.tmp 24) rfl (g + 1) 0 zs.toArray rfl rfl (unhide TH) (by rw [sizeTree]; simp [unhide HZL]) (unhide HZO) ?_)
   refine bodyPost_ret (v := .agg zs.toArray) (results_cell rfl _ _ _ ⟨g + 1, 0, none⟩ rfl _ (unhide HLD)) rfl ⟨by rw [unhide HZS], unhide HB4⟩
end Go.Proofs.YtiellebdliifdaaGreatDoor
namespace Go.Proofs.YtiellebdliifdaaGreatDoor
open Go.RowKit
theorem index_leaf (f : Nat → Ent) (k : Nat) (hk : k < 3) (w : World) : (Instr.index 89 (.agg (lfC f).toArray) (.int .i64 (k : Int))).run Tryz.prog w = .ok (.agg #[.string (vtD (f k)), .string (vtW (f k))]) w := by
 rcases (show k = 0 ∨ k = 1 ∨ k = 2 by omega) with rfl | rfl | rfl <;> kernel_rfl
theorem or_pow (a k : Nat) (h : a < 2 ^ k) : a ||| 2 ^ k = a + 2 ^ k := by
 have := Nat.two_pow_add_eq_or_of_lt h 1
 rw [Nat.mul_one] at this
 rw [Nat.or_comm, ← this, Nat.add_comm]
set_option maxRecDepth 100000 in
set_option maxHeartbeats 2000000 in
theorem fMarks_any (f : Nat → Ent) (hf : ∀ j, j < 3 → EOk (f j)) (w : World) : Calls Tryz.prog 156 #[.agg (lfC f).toArray] w fun e w' => e = .returned (.int .i64 (mks f 3 : Int)) ∧ Below w.heap.size w w' := by
 obtain ⟨g, hg⟩ : ∃ g, w.heap.size = g := ⟨_, rfl⟩
 have HIX := hide (index_leaf f)
 have HML := hide (mks_lt f)
 have HMS := hide (fun k => show mks f (k + 1) = mks f k + mk1 (f k) * 2 ^ k from rfl)
 obtain ⟨xs, hxs⟩ : ∃ q, lfC f = q := ⟨_, rfl⟩
 have hxl : xs.length = 6 := by rw [← hxs]; rfl
 rw [hxs] at HIX ⊢
 clear hxs
 obtain ⟨x2, hx2⟩ : ∃ q, w.alloc (.cells xs.toArray 89) = q := ⟨_, rfl⟩
 have B : Blk x2 g xs.toArray 89 := by rw [← hx2, ← hg]; exact Blk.new w _ _
 have hb : Below g w x2 := by rw [← hx2, ← hg]; exact (Below.refl _ w).alloc (Nat.le_refl _) _
 have R := hide (blk_range B)
 have HXL := hide hxl
 have X2 := hide (show Below g w x2 ∧ g < x2.heap.size from ⟨hb, B.lt⟩)
 have HF := hide hf
 clear B hb hxl hf
 rw [hg]
 go_enter Tryz.func156, Tryz.ntmps156
 go_wp2_with (refine wpList_load_mid rfl 89 (.tmp 1) rfl g 0 rfl _ _ (unhide R) Tryz.underlying89 rfl (by rw [sizeLeaf, unhide HXL]) ?_)
 clear hx2 R HXL
 go_loopw [3, 7] (fun m i wr => ∃ k : Nat, k ≤ 3 ∧ i = .int .i64 (k : Int) ∧ m = .int .i64 (mks f k : Int) ∧ Below g w wr ∧ g < wr.heap.size) (fun _ i _ => 3 - (intOf i).toNat)
 case atStart => exact ⟨0, by omega, rfl, rfl, (unhide X2).1, (unhide X2).2⟩
 case round =>
  obtain ⟨k, hk, rfl, rfl, hB, hgl⟩ := hrel
  by_cases hkn : k < 3
  ·have hkn' : (k : Int) < 3 := by omega
   have hk0 : (0 : Int) ≤ (k : Int) := by omega
   have hix := unhide HIX k hkn
   have hm := unhide HML k
   have HS := hide (unhide HMS k)
   have hp : 2 ^ k ≤ 4 := by rcases (show k = 0 ∨ k = 1 ∨ k = 2 by omega) with rfl | rfl | rfl <;> decide
   have HOR := hide (i64_or_nat (mks f k) (2 ^ k) (by omega) (by omega))
   rw [or_pow _ _ hm] at HOR
   rw [show ((2 ^ k : Nat) : Int) = 2 ^ k from by simp] at HOR
   have HE1 := hide (show wrap64 ((2 : Int) ^ k) = 2 ^ k from by rcases (show k = 0 ∨ k = 1 ∨ k = 2 by omega) with rfl | rfl | rfl <;> exact wrap64_eq _ (by decide) (by decide))
   have HS' := hide (show mks f (k + 1) = mks f k + mk1 (f k) * 2 ^ k from rfl)
   generalize mks f k = m at *
   clear HS
   have HB := hide (And.intro hB hgl)
   have HM := hide (isMapped_any (f k) (unhide HF k hkn))
   generalize vtD (f k) = d at *
   generalize vtW (f k) = t at *
   generalize hz : (f k).isSome = z at *
   have HZ := hide (show mk1 (f k) = if z then 1 else 0 by rw [← hz]; rfl)
   clear hB hgl hz hm
   go_wp2_with fail
   refine (unhide HM _).mono ?_
   rintro e y1 ⟨rfl, hb1⟩
   have HB1 := hide (show Below g w y1 ∧ g < y1.heap.size from by
    have h1 := (unhide HB).1
    have h2 := (unhide HB).2
    have h3 := hb1.size
    refine ⟨?_, by simp at h3; omega⟩
    refine Below.trans ?_ (hb1.mono ?_)
    ·exact h1.alloc (by omega) _
    ·simp; omega)
   clear hb1 HB HM hix
   cases z with
   | true =>
    have e1 := unhide HE1
    go_wp2
    go_roundw
    case rel => exact ⟨k + 1, by omega, by go_num, by rw [unhide HOR, unhide HS', unhide HZ]; simp, (unhide HB1).1, (unhide HB1).2⟩
    case measure => simp [intOf]; omega
   | false =>
    go_wp2
    go_roundw
    case rel => exact ⟨k + 1, by omega, by go_num, by rw [unhide HS', unhide HZ]; simp, (unhide HB1).1, (unhide HB1).2⟩
    case measure => simp [intOf]; omega
  ·have hke : k = 3 := by omega
   have hkn' : ¬ (k : Int) < 3 := by omega
   have HR := hide (show mks f k = mks f 3 by rw [hke])
   clear hke HIX HML HMS
   go_wp2
   go_ret
   exact ⟨by rw [unhide HR]; rfl, hB⟩
theorem rep80 : nums (strOfNums (List.replicate 80 0)) = e80 none := by
 rw [nums_strOfNums _ (rep_bytes 80)]
 show _ = List.replicate 32 0 ++ List.replicate 48 0
 rw [List.replicate_append_replicate]
theorem e80_some (d t : ByteArray) : e80 (some (d, t)) = nums d ++ nums t := rfl
set_option maxRecDepth 100000 in
set_option maxHeartbeats 2000000 in
theorem fBody_any (f : Nat → Ent) (hf : ∀ j, j < 3 → EOk (f j)) (w : World) : Calls Tryz.prog 105 #[.agg (lfC f).toArray] w fun e w' => e = .returned (.string (lfB f)) ∧ Below w.heap.size w w' := by
 obtain ⟨g, hg⟩ : ∃ g, w.heap.size = g := ⟨_, rfl⟩
 have HIX := hide (index_leaf f)
 have HMK := hide (fun W => fMarks_any f hf W)
 have HML := hide (mks_lt f 3)
 have HRP := hide (fun W => rep_ok 80 W (by decide))
 simp only [Int.cast_ofNat_Int] at HRP
 have HR8 := hide rep80
 obtain ⟨zz, hzz⟩ : ∃ q, strOfNums (List.replicate 80 0) = q := ⟨_, rfl⟩
 have HZS := hide (show zz.size = 80 by rw [← hzz, strOfNums_size, List.length_replicate])
 rw [hzz] at HRP HR8
 clear hzz
 have HLB := hide (show lfB f = strOfNums (numB (mks f 3 : Int) 1 ++ e3 f 3) from rfl)
 have HEL := hide (fun k (hk : k ≤ 3) => e3_len f hf k hk)
 obtain ⟨xs, hxs⟩ : ∃ q, lfC f = q := ⟨_, rfl⟩
 have hxl : xs.length = 6 := by rw [← hxs]; rfl
 rw [hxs] at HIX HMK ⊢
 clear hxs
 obtain ⟨m, hm⟩ : ∃ q, mks f 3 = q := ⟨_, rfl⟩
 rw [hm] at HMK HML HLB
 clear hm
 obtain ⟨tx, htx⟩ : ∃ q, lfB f = q := ⟨_, rfl⟩
 rw [htx] at HLB ⊢
 clear htx
 obtain ⟨x2, hx2⟩ : ∃ q, w.alloc (.cells xs.toArray 89) = q := ⟨_, rfl⟩
 have B : Blk x2 g xs.toArray 89 := by rw [← hx2, ← hg]; exact Blk.new w _ _
 have hb : Below g w x2 := by rw [← hx2, ← hg]; exact (Below.refl _ w).alloc (Nat.le_refl _) _
 have HXL := hide hxl
 have X2 := hide (And.intro B hb)
 have HF := hide hf
 clear B hb hxl hf
 rw [hg]
 go_enter Tryz.func105, Tryz.ntmps105
 go_wp2_with fail
 refine (newWriter_any _).mono ?_
 rintro e x3 ⟨rfl, hW3, hb3, hs3⟩
 obtain ⟨B, hb⟩ := unhide X2
 have B3 := B.below hb3 B.lt
 have hb13 : Below g w x3 := hb.trans (hb3.mono (by have := B.lt; omega))
 obtain ⟨bw, hbw⟩ : ∃ q, x2.heap.size = q := ⟨_, rfl⟩
 have hgb : g < bw := by rw [← hbw]; exact B.lt
 have hbl : bw ≤ x3.heap.size := by rw [← hbw]; exact hb3.size
 rw [hbw] at hW3
 rw [hbw]
 have R3 := hide (blk_range B3)
 have P3 := hide (WPost.refl hW3)
 have X3 := hide (And.intro B3 (And.intro hb13 (And.intro hgb hbl)))
 clear B hb B3 hb13 hb3 hs3 hbw hgb hbl X2 hW3 hx2
 go_wp2_with (refine wpList_load_mid rfl 89 (.tmp 1) rfl g 0 rfl _ _ (unhide R3) Tryz.underlying89 rfl (by rw [sizeLeaf, unhide HXL]) ?_)
 refine (unhide HMK _).mono ?_
 rintro e x4 ⟨rfl, hb4⟩
 have P4 := hide ((unhide P3).below hb4)
 have B4 := (unhide X3).1.below hb4 (unhide X3).1.lt
 have X4 := hide (And.intro B4 ((unhide X3).2.1.trans (hb4.mono (by have := (unhide X3).1.lt; omega))))
 clear hb4 B4 P3 R3
 go_wp2_with fail
 refine (wnumK (unhide P4) (unhide X3).2.2.2 1 (by decide) (by decide) (m : Int) (fits1n m (by have := unhide HML; omega)) (by simp) 1 rfl _ rfl).mono ?_
 rintro e x5 ⟨rfl, hP5⟩
 have hO5 : Only (Fp bw (.slice none 0 0)) x3 x5 := by obtain ⟨_, _, q, _⟩ := hP5; exact q
 have hgb := (unhide X3).2.2.1
 have B5 := (unhide X3).1.only hO5 (by rintro (q | q); exact absurd q (by omega); cases q)
 have R5 := hide (blk_range B5)
 have HP5 := hide (show WPost bw bw (.slice none 0 0) (numB (m : Int) 1 ++ e3 f 0) 0 x3 x5 by rw [e3, List.append_nil]; exact hP5)
 clear hP5 hO5 hgb B5 P4 X4
 go_wp2_with (refine wpList_load_mid rfl 89 (.tmp 1) rfl g 0 rfl _ _ (unhide R5) Tryz.underlying89 rfl (by rw [sizeLeaf, unhide HXL]) ?_)
 clear R5
 go_loopw [15] (fun i wr => ∃ k : Nat, k ≤ 3 ∧ i = .int .i64 (k : Int) ∧ WPost bw bw (.slice none 0 0) (numB (m : Int) 1 ++ e3 f k) 0 x3 wr) (fun i _ => 3 - (intOf i).toNat)
 case atStart => exact ⟨0, by omega, rfl, unhide HP5⟩
 case round =>
  obtain ⟨k, hk, rfl, hP⟩ := hrel
  by_cases hkn : k < 3
  ·have hkn' : (k : Int) < 3 := by omega
   have hk0 : (0 : Int) ≤ (k : Int) := by omega
   have hix := unhide HIX k hkn
   have HM := hide (isMapped_any (f k) (unhide HF k hkn))
   have HE3 := hide (show e3 f (k + 1) = e3 f k ++ e80 (f k) from rfl)
   have HEK := hide (unhide HF k hkn)
   have HLL := hide (show (numB (m : Int) 1 ++ e3 f k).length ≤ 1000 by rw [List.length_append, numB_len, unhide HEL k (by omega)]; omega)
   have HP := hide hP
   clear hP
   cases hfk : f k with
   | none =>
    rw [hfk] at hix HM HE3
    clear hfk HEK
    simp only [vtD, vtW, Option.isSome] at hix HM
    go_wp2_with fail
    refine (unhide HM _).mono ?_
    rintro e y1 ⟨rfl, hb1⟩
    have P1 := hide (((unhide HP).alloc _).below hb1)
    clear hb1 hix HM
    go_wp2_with fail
    refine (unhide HRP _).mono ?_
    rintro e y2 ⟨rfl, hb2⟩
    have P2 := hide ((unhide P1).below hb2)
    clear hb2 P1
    go_wp2_with fail
    refine (rawK (unhide P2) (unhide X3).2.2.2 zz (by rw [unhide HZS]; have := unhide HLL; omega)).mono ?_
    rintro e y3 ⟨rfl, hP3⟩
    rw [wl_good, unhide HR8, List.append_assoc, ← unhide HE3] at hP3
    have HP3 := hide hP3
    clear hP3 P2
    go_wp2
    go_roundw
    case rel => exact ⟨k + 1, by omega, by go_num, unhide HP3⟩
    case measure => simp [intOf]; omega
   | some p =>
    rw [hfk] at hix HM HE3 HEK
    obtain ⟨d, t⟩ := p
    have hd := ((unhide HEK) d t rfl).1
    have ht := ((unhide HEK) d t rfl).2
    have HDT := hide (And.intro hd ht)
    clear hfk HEK hd ht
    simp only [vtD, vtW, Option.isSome] at hix HM
    rw [e80_some] at HE3
    obtain ⟨ge, hge⟩ : ∃ q, wr.heap.size = q := ⟨_, rfl⟩
    obtain ⟨y0, hy0⟩ : ∃ q, wr.alloc (.cells #[.string d, .string t] 47) = q := ⟨_, rfl⟩
    have B0 : Blk y0 ge #[.string d, .string t] 47 := by rw [← hy0, ← hge]; exact Blk.new wr _ _
    have P0 : WPost bw bw (.slice none 0 0) (numB (m : Int) 1 ++ e3 f k) 0 x3 y0 := by rw [← hy0]; exact (unhide HP).alloc _
    have X0 := hide (And.intro B0 P0)
    have hgeb : bw < ge := by
     obtain ⟨v1, W1, -, -⟩ := unhide HP
     rw [← hge]
     exact W1.lt
    have k0 : y0.cell? ⟨ge, 0, none⟩ = some (.string d) := B0.cell 0
    have k1 : y0.cell? ⟨ge, 1, none⟩ = some (.string t) := B0.cell 1
    clear B0 P0
    go_wp2_with fail
    refine (unhide HM _).mono ?_
    rintro e y1 ⟨rfl, hb1⟩
    have B1 := (unhide X0).1.below hb1 (unhide X0).1.lt
    have P1 := (unhide X0).2.below hb1
    have c0 : y1.cell? ⟨ge, 0, none⟩ = some (.string d) := B1.cell 0
    obtain ⟨v1, W1, O1, h1⟩ := P1
    have hnF : ¬ Fp bw v1 ge := by
     rintro (q | q)
     ·omega
     ·exact B1.not_row (by decide) W1.2.1 q
    have HRW := hide (raw_any y1 bw bw v1 _ 0 W1 (Nat.le_trans (unhide X3).2.2.2 O1.size) d (by rw [(unhide HDT).1]; have := unhide HLL; omega))
    have X1 := hide (And.intro B1 (And.intro O1 (And.intro h1 hnF)))
    clear B1 W1 O1 h1 hnF hb1 X0 HM hix hy0 k0 k1
    go_wp2_with fail
    refine (unhide HRW).mono ?_
    rintro e y2 ⟨rfl, hP2⟩
    rw [wl_good] at hP2
    obtain ⟨B1, O1, h1, hnF⟩ := unhide X1
    have hO2 : Only (Fp bw v1) y1 y2 := by obtain ⟨_, _, q, _⟩ := hP2; exact q
    have B2 := B1.only hO2 hnF
    have c1 : y2.cell? ⟨ge, 1, none⟩ = some (.string t) := B2.cell 1
    have P2 := hide (WPost.trans O1 h1 hP2)
    clear B1 O1 h1 hnF hO2 B2 hP2 X1 HRW c0
    go_wp2_with fail
    refine (rawK (unhide P2) (unhide X3).2.2.2 t (by rw [List.length_append, nums_len, (unhide HDT).1, (unhide HDT).2]; have := unhide HLL; omega)).mono ?_
    rintro e y3 ⟨rfl, hP3⟩
    rw [wl_good, List.append_assoc, List.append_assoc, ← unhide HE3] at hP3
    have HP3 := hide hP3
    clear hP3 P2 c1 hgeb hge
    go_wp2
    go_roundw
    case rel => exact ⟨k + 1, by omega, by go_num, unhide HP3⟩
    case measure => simp [intOf]; omega
  ·have hke : k = 3 := by omega
   have hkn' : ¬ (k : Int) < 3 := by omega
   have HD := hide (doneK hP)
   rw [hke, ← unhide HLB] at HD
   clear hke hP HIX HMK
   go_wp2_with fail
   refine (unhide HD).mono ?_
   rintro e y1 ⟨rfl, hP1⟩
   have hO : Only (Fp bw (.slice none 0 0)) x3 y1 := by obtain ⟨_, _, q, _⟩ := hP1; exact q
   have HBB := hide ((unhide X3).2.1.trans (hO.below (B := g) (by have := (unhide X3).1.lt; omega) (fun x hx q => by have := (unhide X3).2.2.1; rcases q with q | q; omega; cases q)))
   clear hP1 hO HD
   go_wp2
   go_ret
   exact ⟨rfl, unhide HBB⟩
end Go.Proofs.YtiellebdliifdaaGreatDoor
