import Derived.Test.YtnfdedolgfcmfaaGreatDoorMrc14
namespace Go.Proofs.YtnfdedolgfcmfaaGreatDoor
open Go.RowKit
set_option maxRecDepth 100000
def dropSeq : Nat → Code → Code
  | 0, c => c
  | n + 1, .seq _ b => dropSeq n b
  | _, c => c
noncomputable def frE : Code := dropSeq 8 ((Tryz.f39.body).getD .skip)
set_option maxHeartbeats 2000000 in
theorem frE_walk (w0 : World) (h0 h6 B k z f t n c : Nat) (r : ByteArray) (p : Option Addr) (L : List (Nat × ByteArray)) (hn : L.length = n) (hn9 : n ≤ 100000) (hL1 : ∀ j, j < L.length → (L.getD j (0, ⟨#[]⟩)).1 < 65536) (hS : SWr w0 B p L) (hB : B ≤ w0.heap.size) (hB6 : Blk w0 h6 #[.int .i64 (k : Int), .int .i64 (z : Int), .int .i64 (f : Int), .int .i64 (t : Int), .string r, .slice p n c] 97) (hB0 : Blk w0 h0 #[.int .i64 0, .int .i64 0, .int .i64 0, .int .i64 0, .string ⟨#[]⟩, .slice none 0 0] 97) (Q : Ending → World → Prop)
    (hQ1 : mbB k z f t L = false → ∀ w', Only (fun q => q = h0) w0 w' → Q (.returned (.tuple #[.agg #[.int .i64 0, .int .i64 0, .int .i64 0, .int .i64 0, .string ⟨#[]⟩, .slice none 0 0], .bool false])) w') (hQ2 : mbB k z f t L = true → ∀ w', Only (fun q => q = h0) w0 w' → Q (.returned (.tuple #[.agg #[.int .i64 (k : Int), .int .i64 (z : Int), .int .i64 (f : Int), .int .i64 (t : Int), .string r, .slice p n c], .bool true])) w') (t0 t1 t3 t4 t5 t7 t8 t9 t10 t11 t12 t13 t14 t15 t16 t17 t18 t19 t20 t21 t22 t23 t24 t25 t26 t27 t28 t29 t30 t31 t32 t33 t34 t35 t36 t37 t38 t39 t40 t41 t42 t43 t44 t45 t46 t47 t48 t49 t50 t51 t52 t53 t54 t55 t56 t57 t58 t59 t60 t61 t62 t63 t64 t65 t66 t67 t68 t69 t70 t71 t72 : Value) :
    Code.wp Tryz.prog frE (bodyPost Tryz.prog Tryz.f39 Q) ⟨#[t0, t1, .pointer (some ⟨h0, 0, none⟩), t3, t4, t5, .pointer (some ⟨h6, 0, none⟩), t7, t8, t9, t10, t11, t12, t13, t14, t15, t16, t17, t18, t19, t20, t21, t22, t23, t24, t25, t26, t27, t28, t29, t30, t31, t32, t33, t34, t35, t36, t37, t38, t39, t40, t41, t42, t43, t44, t45, t46, t47, t48, t49, t50, t51, t52, t53, t54, t55, t56, t57, t58, t59, t60, t61, t62, t63, t64, t65, t66, t67, t68, t69, t70, t71, t72], []⟩ w0 := by
  conv => arg 2; whnf
  have HMB := hide (ymayBe_any k z (f : Int) (t : Int) r n c B p L hn hn9 hL1 w0 hS hB)
  have c0 : w0.cell? ⟨h6, 0, none⟩ = some (.int .i64 (k : Int)) := by rw [(hB6).cell 0]; rfl
  have c1 : w0.cell? ⟨h6, 1, none⟩ = some (.int .i64 (z : Int)) := by rw [(hB6).cell 1]; rfl
  have c2 : w0.cell? ⟨h6, 2, none⟩ = some (.int .i64 (f : Int)) := by rw [(hB6).cell 2]; rfl
  have c3 : w0.cell? ⟨h6, 3, none⟩ = some (.int .i64 (t : Int)) := by rw [(hB6).cell 3]; rfl
  have c4 : w0.cell? ⟨h6, 4, none⟩ = some (.string r) := by rw [(hB6).cell 4]; rfl
  have c5 : w0.cell? ⟨h6, 5, none⟩ = some (.slice p n c) := by rw [(hB6).cell 5]; rfl
  have HB := hide (And.intro hB6 hB0)
  obtain ⟨X, hX⟩ : ∃ q, mbB k z f t L = q := ⟨_, rfl⟩
  rw [hX] at HMB hQ1 hQ2
  have HQ1 := hide hQ1
  have HQ2 := hide hQ2
  clear hn hL1 hS hB hB6 hB0 hX hQ1 hQ2
  go_wp2_with fail
  refine (unhide HMB).mono ?_
  rintro e y ⟨rfl, hb⟩
  have h6y := (unhide HB).1.below hb (unhide HB).1.lt
  have h0y := (unhide HB).2.below hb (unhide HB).2.lt
  have HO := hide (show Only (fun q => q = h0) w0 y from Only.of_below hb)
  clear c0 c1 c2 c3 c4 c5 HMB hb
  have z0 : y.cell? ⟨h0, 0, none⟩ = some (.int .i64 0) := by rw [(h0y).cell 0]; rfl
  have z1 : y.cell? ⟨h0, 1, none⟩ = some (.int .i64 0) := by rw [(h0y).cell 1]; rfl
  have z2 : y.cell? ⟨h0, 2, none⟩ = some (.int .i64 0) := by rw [(h0y).cell 2]; rfl
  have z3 : y.cell? ⟨h0, 3, none⟩ = some (.int .i64 0) := by rw [(h0y).cell 3]; rfl
  have z4 : y.cell? ⟨h0, 4, none⟩ = some (.string ⟨#[]⟩) := by rw [(h0y).cell 4]; rfl
  have z5 : y.cell? ⟨h0, 5, none⟩ = some (.slice none 0 0) := by rw [(h0y).cell 5]; rfl
  have g0 := (h0y).frozen 0
  have g1 := (h0y).frozen 1
  have g2 := (h0y).frozen 2
  have g3 := (h0y).frozen 3
  have g4 := (h0y).frozen 4
  have g5 := (h0y).frozen 5
  cases X with
  | false =>
    have HY := hide (show Blk ((((((y.setCell ⟨h0, 0, none⟩ (.int .i64 0)).setCell ⟨h0, 1, none⟩ (.int .i64 0)).setCell ⟨h0, 2, none⟩ (.int .i64 0)).setCell ⟨h0, 3, none⟩ (.int .i64 0)).setCell ⟨h0, 4, none⟩ (.string ⟨#[]⟩)).setCell ⟨h0, 5, none⟩ (.slice none 0 0)) h0 #[.int .i64 0, .int .i64 0, .int .i64 0, .int .i64 0, .string ⟨#[]⟩, .slice none 0 0] 97 ∧ Only (fun q => q = h0) w0 ((((((y.setCell ⟨h0, 0, none⟩ (.int .i64 0)).setCell ⟨h0, 1, none⟩ (.int .i64 0)).setCell ⟨h0, 2, none⟩ (.int .i64 0)).setCell ⟨h0, 3, none⟩ (.int .i64 0)).setCell ⟨h0, 4, none⟩ (.string ⟨#[]⟩)).setCell ⟨h0, 5, none⟩ (.slice none 0 0)) from ⟨((((((((((((h0y).set 0 (.int .i64 0))).set 1 (.int .i64 0))).set 2 (.int .i64 0))).set 3 (.int .i64 0))).set 4 (.string ⟨#[]⟩))).set 5 (.slice none 0 0)), ((((((((((((unhide HO).setCell ⟨h0, 0, none⟩ (.int .i64 0) (fun _ => rfl))).setCell ⟨h0, 1, none⟩ (.int .i64 0) (fun _ => rfl))).setCell ⟨h0, 2, none⟩ (.int .i64 0) (fun _ => rfl))).setCell ⟨h0, 3, none⟩ (.int .i64 0) (fun _ => rfl))).setCell ⟨h0, 4, none⟩ (.string ⟨#[]⟩) (fun _ => rfl))).setCell ⟨h0, 5, none⟩ (.slice none 0 0) (fun _ => rfl))⟩)
    have HF := hide (unhide HQ1 rfl _ (unhide HY).2)
    clear h6y h0y HQ1 HQ2 HO HB
    go_wp2
    have hld := iload_blk 97 _ (unhide HY).1 Tryz.underlying97 rfl (by kernel_rfl)
    refine bodyPost_ret (v := .tuple #[.agg #[.int .i64 0, .int .i64 0, .int .i64 0, .int .i64 0, .string ⟨#[]⟩, .slice none 0 0], .bool false]) (results_cell2 (p := 2) (q := 3) (ty := 97) rfl _ _ _ ⟨h0, 0, none⟩ rfl _ hld) rfl (unhide HF)
  | true =>
    have c0 : y.cell? ⟨h6, 0, none⟩ = some (.int .i64 (k : Int)) := by rw [(h6y).cell 0]; rfl
    have c1 : y.cell? ⟨h6, 1, none⟩ = some (.int .i64 (z : Int)) := by rw [(h6y).cell 1]; rfl
    have c2 : y.cell? ⟨h6, 2, none⟩ = some (.int .i64 (f : Int)) := by rw [(h6y).cell 2]; rfl
    have c3 : y.cell? ⟨h6, 3, none⟩ = some (.int .i64 (t : Int)) := by rw [(h6y).cell 3]; rfl
    have c4 : y.cell? ⟨h6, 4, none⟩ = some (.string r) := by rw [(h6y).cell 4]; rfl
    have c5 : y.cell? ⟨h6, 5, none⟩ = some (.slice p n c) := by rw [(h6y).cell 5]; rfl
    have HY := hide (show Blk ((((((y.setCell ⟨h0, 0, none⟩ (.int .i64 (k : Int))).setCell ⟨h0, 1, none⟩ (.int .i64 (z : Int))).setCell ⟨h0, 2, none⟩ (.int .i64 (f : Int))).setCell ⟨h0, 3, none⟩ (.int .i64 (t : Int))).setCell ⟨h0, 4, none⟩ (.string r)).setCell ⟨h0, 5, none⟩ (.slice p n c)) h0 #[.int .i64 (k : Int), .int .i64 (z : Int), .int .i64 (f : Int), .int .i64 (t : Int), .string r, .slice p n c] 97 ∧ Only (fun q => q = h0) w0 ((((((y.setCell ⟨h0, 0, none⟩ (.int .i64 (k : Int))).setCell ⟨h0, 1, none⟩ (.int .i64 (z : Int))).setCell ⟨h0, 2, none⟩ (.int .i64 (f : Int))).setCell ⟨h0, 3, none⟩ (.int .i64 (t : Int))).setCell ⟨h0, 4, none⟩ (.string r)).setCell ⟨h0, 5, none⟩ (.slice p n c)) from ⟨((((((((((((h0y).set 0 (.int .i64 (k : Int)))).set 1 (.int .i64 (z : Int)))).set 2 (.int .i64 (f : Int)))).set 3 (.int .i64 (t : Int)))).set 4 (.string r))).set 5 (.slice p n c)), ((((((((((((unhide HO).setCell ⟨h0, 0, none⟩ (.int .i64 (k : Int)) (fun _ => rfl))).setCell ⟨h0, 1, none⟩ (.int .i64 (z : Int)) (fun _ => rfl))).setCell ⟨h0, 2, none⟩ (.int .i64 (f : Int)) (fun _ => rfl))).setCell ⟨h0, 3, none⟩ (.int .i64 (t : Int)) (fun _ => rfl))).setCell ⟨h0, 4, none⟩ (.string r) (fun _ => rfl))).setCell ⟨h0, 5, none⟩ (.slice p n c) (fun _ => rfl))⟩)
    have HF := hide (unhide HQ2 rfl _ (unhide HY).2)
    clear h6y h0y HQ1 HQ2 HO HB
    go_wp2
    have hld := iload_blk 97 _ (unhide HY).1 Tryz.underlying97 rfl (by kernel_rfl)
    refine bodyPost_ret (v := .tuple #[.agg #[.int .i64 (k : Int), .int .i64 (z : Int), .int .i64 (f : Int), .int .i64 (t : Int), .string r, .slice p n c], .bool true]) (results_cell2 (p := 2) (q := 3) (ty := 97) rfl _ _ _ ⟨h0, 0, none⟩ rfl _ hld) rfl (unhide HF)
end Go.Proofs.YtnfdedolgfcmfaaGreatDoor

namespace Go.Proofs.YtnfdedolgfcmfaaGreatDoor
open Go.RowKit
set_option maxRecDepth 100000
/-- the number that so many bytes tell -/
def beT (x : ByteArray) (n : Nat) : Nat := (beN ((nums x).take n)).toNat
theorem beT_v (x : ByteArray) (n : Nat) : ((beT x n : Nat) : Int) = beN ((nums x).take n) := by
  have := (be_bound (nums x) (nums_bytes x) n).1
  unfold beT
  omega
theorem beT_lt (x : ByteArray) (n m : Nat) (h : (256 : Int) ^ n = (m : Int)) : beT x n < m := by
  have h1 := be_bound (nums x) (nums_bytes x) n
  have h2 := beT_v x n
  omega
/-- what is left of the sectors behind so many of them; a sector; the first sectors -/
def frS (x : ByteArray) : Nat → ByteArray
  | 0 => x
  | j + 1 => ((frS x j).extract 2 (frS x j).size).extract 256 ((frS x j).extract 2 (frS x j).size).size
def scE (y : ByteArray) : Nat × ByteArray := (beT y 2, (y.extract 2 y.size).extract 0 256)
def frW (x : ByteArray) (n : Nat) : List (Nat × ByteArray) := (List.range n).map (fun j => scE (frS x j))
theorem frW_len (x : ByteArray) (n : Nat) : (frW x n).length = n := by simp [frW]
theorem frW_at (x : ByteArray) (n j : Nat) (h : j < n) : (frW x n).getD j (0, ⟨#[]⟩) = scE (frS x j) := by
  unfold frW
  rw [List.getD_eq_getElem?_getD, List.getElem?_map, List.getElem?_range h]
  rfl
theorem frS_size (x : ByteArray) (n : Nat) (h : x.size = n * 258) : ∀ j, j ≤ n → (frS x j).size + j * 258 = n * 258
  | 0, _ => by show x.size + 0 * 258 = _; omega
  | j + 1, hj => by
    have h1 := frS_size x n h j (by omega)
    have h2 : 258 ≤ (frS x j).size := by omega
    show (((frS x j).extract 2 (frS x j).size).extract 256 ((frS x j).extract 2 (frS x j).size).size).size + (j + 1) * 258 = _
    rw [ByteArray.size_extract, ByteArray.size_extract]
    omega
theorem wrR_at (L : List (Nat × ByteArray)) : ∀ j, j < L.length → (wrR L)[j * 2]? = some (.int .i64 ((L.getD j (0, ⟨#[]⟩)).1 : Int)) ∧ (wrR L)[j * 2 + 1]? = some (.string (L.getD j (0, ⟨#[]⟩)).2) := by
  induction L with
  | nil => intro j hj; exact absurd hj (by simp)
  | cons a L ih =>
    intro j hj
    have e : wrR (a :: L) = Value.int .i64 (a.1 : Int) :: Value.string a.2 :: wrR L := rfl
    cases j with
    | zero => rw [e]; exact ⟨rfl, rfl⟩
    | succ j =>
      have h1 := ih j (by simpa using hj)
      rw [e, show (j + 1) * 2 = j * 2 + 1 + 1 by omega, show j * 2 + 1 + 1 + 1 = (j * 2 + 1) + 1 + 1 by omega]
      exact h1
theorem own_swr {w : World} {base n c : Nat} {p : Option Addr} {L : List (Nat × ByteArray)} (hn : L.length = n) (h : w.ownsRow base 149 2 (.slice p n c) n (wrR L)) : SWr w w.heap.size p L := fun j hj => by
  rcases h.2 with ⟨h1, h2⟩ | ⟨g, cap, cur, h1, hb, hg, hnc, hc, hs, hx⟩
  · omega
  · injection h1 with e1 e2 e3
    subst e1
    have hlt : g < w.heap.size := Blk.lt hg
    have key : ∀ i, i < n * 2 → w.cell? ⟨g, i, none⟩ = (wrR L)[i]? := fun i hi => by
      rw [Blk.cell hg i, ← hx, List.getElem?_take, if_pos hi]
      simp
    have h9 := wrR_at L j hj
    refine ⟨g, 0, rfl, hlt, ?_, ?_⟩
    · rw [Nat.zero_add, key _ (by omega)]; exact h9.1
    · rw [Nat.zero_add, key _ (by omega)]; exact h9.2
theorem Rk.lt {w : World} {b t : Nat} {r : ByteArray} (h : Rk w b r t) : b < w.heap.size := Blk.lt h.1
theorem ety_only6 {w w' : World} {b : Nat} {cur : Array Value} {S : TypeId} {k : Int} (h : ETy w) (hB : Blk w b cur S) (hc : cur[0]? = some (.int .i64 k)) (ho : Only (fun q => q = b) w w') : ETy w' := h.only ho (by
  intro e
  subst e
  have h1 := hB.cell 0
  rw [hc] at h1
  unfold ETy at h
  rw [h1] at h
  cases h)
end Go.Proofs.YtnfdedolgfcmfaaGreatDoor
