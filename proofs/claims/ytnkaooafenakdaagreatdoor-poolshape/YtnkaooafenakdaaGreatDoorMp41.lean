import Derived.Test.YtnkaooafenakdaaGreatDoorMp40
import Derived.Test.YtnkaooafenakdaaGreatDoorMp35
import Derived.BigQuiet
import Derived.Test.YtnkaooafenakdaaGreatDoorMp36
import Derived.Test.YtnkaooafenakdaaGreatDoorMp21
import Derived.Test.YtnkaooafenakdaaGreatDoorCards
import Derived.Test.YtnkaooafenakdaaGreatDoorTie
import Derived.ProofKit
import Derived.OpenShut
import Derived.ShutString
import Derived.SizedLaws
import Derived.Deep.DeepHandedRow
import Derived.LaidLaws
import Derived.LaidHandle
import Derived.Lib.LaidTab
import Derived.Deep.Slices
import Derived.Deep.Strs
import Derived.Lib.SmallJoins
namespace Go.Proofs.YtnkaooafenakdaaGreatDoor
open Go.RowKit Go.Maps Go.Sort Go.Shelf
theorem only1 (x : World) (g o : Nat) (a : Value) : Only (fun z => z = g) x (x.setCell ⟨g, o, none⟩ a) := (Only.refl _ x).setCell ⟨g, o, none⟩ a (fun _ => rfl)
theorem only3 (x : World) (g : Nat) (a b c : Value) : Only (fun z => z = g) x (((x.setCell ⟨g, 0, none⟩ a).setCell ⟨g, 1, none⟩ b).setCell ⟨g, 2, none⟩ c) :=
  ((only1 x g 0 a).trans (only1 (x.setCell ⟨g, 0, none⟩ a) g 1 b) (fun _ _ q => q)).trans (only1 ((x.setCell ⟨g, 0, none⟩ a).setCell ⟨g, 1, none⟩ b) g 2 c) (fun _ _ q => q)
set_option maxRecDepth 100000 in
set_option maxHeartbeats 1000000 in
theorem stats_any (w : World) (base pb b jb : Nat) (op : Bool) (bw keep bv : Nat) (ov : Value) (hits mis : Int) (lost : Bool) (n : Nat) (xs : List Value) (hB : Blk w pb (Pcs b jb op bw keep bv ov hits mis lost) 96) (H : w.ownsRow base 3 1 ov n xs) :
    Calls Tryz.prog 22 #[.pointer (some ⟨pb, 0, none⟩)] w fun e w' => e = .returned (.agg #[.int .i64 hits, .int .i64 mis, .int .i64 (n : Int)]) ∧ Below w.heap.size w w' := by
  obtain ⟨x, hx⟩ : ∃ x, w.alloc (.cells #[.int .i64 0, .int .i64 0, .int .i64 0] 50) = x := ⟨_, rfl⟩
  have hb : Below w.heap.size w x := by rw [← hx]; exact (Below.refl _ w).alloc (Nat.le_refl _) _
  have hO : Only (fun _ => False) w x := Only.of_below hb
  have hS1 : Blk x pb (Pcs b jb op bw keep bv ov hits mis lost) 96 := hB.only hO (fun q => q)
  have hS2 := owns_only H hO (fun _ _ q => q)
  have hS3 : Blk x w.heap.size #[.int .i64 0, .int .i64 0, .int .i64 0] 50 := by rw [← hx]; exact Blk.new w _ _
  have HPB := hide (show pb < w.heap.size from hB.lt)
  have HOV := hide (fun z (hz : ov.ownBlock = some z) => (row_lt H hz).1)
  have HX := hide hx
  have HB := hide hb
  clear hx hb hO hB H
  go_enter Tryz.func22, Tryz.ntmps22
  go_wp2_with fail
  rw [unhide HX]
  have HGH := hide (show w.heap.size = w.heap.size from rfl)
  obtain ⟨gh, hgh⟩ : ∃ g, w.heap.size = g := ⟨_, rfl⟩
  rw [hgh]
  rw [hgh] at hS3
  have hS0 : Blk x.drew pb (Pcs b jb op bw keep bv ov hits mis lost) 96 ∧ x.drew.ownsRow base 3 1 ov n xs := ⟨hS1, hS2⟩
  refine wp_region_held_drew (S := fun w' => Blk w' pb (Pcs b jb op bw keep bv ov hits mis lost) 96 ∧ w'.ownsRow base 3 1 ov n xs) (by kernel_rfl) hS0 ?_
  intro hS
  have B3 : Blk x.drew gh #[.int .i64 0, .int .i64 0, .int .i64 0] 50 := hS3
  have HXD := hide (show Below w.heap.size w x.drew from (unhide HB).drew)
  clear hS0 hS1 hS2 hS3
  generalize x.drew = xd at hS B3 HXD ⊢
  refine wpAnyH_takeD 0 (some 3) (.pointer (some ⟨pb, 0, none⟩)) rfl rfl (by kernel_rfl) (by kernel_rfl) (by kernel_rfl) (fun _ _ _ h => h) (Or.inl ⟨by rfl, fun w hSw => by go_simp⟩) hS ?_
  simp only [Act.put, List.setIfInBounds_toArray, List.set_cons_zero, List.set_cons_succ]
  refine wpAnyH_takeD 1 (some 4) (.pointer (some ⟨pb, 0, none⟩)) rfl rfl (by kernel_rfl) (by kernel_rfl) (by kernel_rfl) (fun _ _ _ h => h) (Or.inl ⟨by rfl, fun w hSw => by go_simp⟩) hS ?_
  simp only [Act.put, List.setIfInBounds_toArray, List.set_cons_zero, List.set_cons_succ]
  refine wpAnyH_takeD 2 (some 5) (.pointer (some ⟨pb, 7, none⟩)) rfl rfl (by kernel_rfl) (by kernel_rfl) (by kernel_rfl) (fun _ _ _ h => h) (Or.inl ⟨by rfl, fun w hSw => by go_simp⟩) hS ?_
  simp only [Act.put, List.setIfInBounds_toArray, List.set_cons_zero, List.set_cons_succ]
  refine wpAnyH_takeD 3 (some 6) (.int .i64 hits) rfl rfl (by kernel_rfl) (by kernel_rfl) (by kernel_rfl) (fun _ _ _ h => h) (Or.inl ⟨by rfl, fun w hSw => by have hq : w.cell? ⟨pb, 7, none⟩ = some (.int .i64 hits) := hSw.1.cell 7; go_simp⟩) hS ?_
  simp only [Act.put, List.setIfInBounds_toArray, List.set_cons_zero, List.set_cons_succ]
  refine wpAnyH_takeD 4 (some 7) (.pointer (some ⟨pb, 0, none⟩)) rfl rfl (by kernel_rfl) (by kernel_rfl) (by kernel_rfl) (fun _ _ _ h => h) (Or.inl ⟨by rfl, fun w hSw => by go_simp⟩) hS ?_
  simp only [Act.put, List.setIfInBounds_toArray, List.set_cons_zero, List.set_cons_succ]
  refine wpAnyH_takeD 5 (some 8) (.pointer (some ⟨pb, 0, none⟩)) rfl rfl (by kernel_rfl) (by kernel_rfl) (by kernel_rfl) (fun _ _ _ h => h) (Or.inl ⟨by rfl, fun w hSw => by go_simp⟩) hS ?_
  simp only [Act.put, List.setIfInBounds_toArray, List.set_cons_zero, List.set_cons_succ]
  refine wpAnyH_takeD 6 (some 9) (.pointer (some ⟨pb, 8, none⟩)) rfl rfl (by kernel_rfl) (by kernel_rfl) (by kernel_rfl) (fun _ _ _ h => h) (Or.inl ⟨by rfl, fun w hSw => by go_simp⟩) hS ?_
  simp only [Act.put, List.setIfInBounds_toArray, List.set_cons_zero, List.set_cons_succ]
  refine wpAnyH_takeD 7 (some 10) (.int .i64 mis) rfl rfl (by kernel_rfl) (by kernel_rfl) (by kernel_rfl) (fun _ _ _ h => h) (Or.inl ⟨by rfl, fun w hSw => by have hq : w.cell? ⟨pb, 8, none⟩ = some (.int .i64 mis) := hSw.1.cell 8; go_simp⟩) hS ?_
  simp only [Act.put, List.setIfInBounds_toArray, List.set_cons_zero, List.set_cons_succ]
  refine wpAnyH_takeD 8 (some 11) (.pointer (some ⟨pb, 0, none⟩)) rfl rfl (by kernel_rfl) (by kernel_rfl) (by kernel_rfl) (fun _ _ _ h => h) (Or.inl ⟨by rfl, fun w hSw => by go_simp⟩) hS ?_
  simp only [Act.put, List.setIfInBounds_toArray, List.set_cons_zero, List.set_cons_succ]
  refine wpAnyH_takeD 9 (some 12) (.pointer (some ⟨pb, 0, none⟩)) rfl rfl (by kernel_rfl) (by kernel_rfl) (by kernel_rfl) (fun _ _ _ h => h) (Or.inl ⟨by rfl, fun w hSw => by go_simp⟩) hS ?_
  simp only [Act.put, List.setIfInBounds_toArray, List.set_cons_zero, List.set_cons_succ]
  refine wpAnyH_takeD 10 (some 13) (.pointer (some ⟨pb, 4, none⟩)) rfl rfl (by kernel_rfl) (by kernel_rfl) (by kernel_rfl) (fun _ _ _ h => h) (Or.inl ⟨by rfl, fun w hSw => by go_simp⟩) hS ?_
  simp only [Act.put, List.setIfInBounds_toArray, List.set_cons_zero, List.set_cons_succ]
  refine wpAnyH_ready (rs := [11]) (by kernel_rfl) (by simp) ?_
  refine AllReadyH.cons rfl (fun K hK => ?_) AllReadyH.nil
  simp only [List.getElem_toArray, List.getElem_cons_succ, List.getElem_cons_zero]
  go_simp
  refine (hcount_any _ base pb b jb op bw keep bv ov hits mis lost n xs hS.1 hS.2).mono ?_
  rintro e w1 ⟨rfl, hw1⟩
  subst w1
  refine hK.out _ _ hS (fun hS => ?_)
  clear hK K
  refine wpAnyH_takeD 12 (some 15) (.agg #[.int .i64 hits, .int .i64 mis, .int .i64 (n : Int)]) rfl rfl (by kernel_rfl) (by kernel_rfl) (by kernel_rfl) (fun _ _ _ h => h) (Or.inl ⟨by rfl, fun w hSw => by go_simp⟩) hS ?_
  simp only [Act.put, List.setIfInBounds_toArray, List.set_cons_zero, List.set_cons_succ]
  have c0 : xd.cell? ⟨gh, 0, none⟩ = some (.int .i64 0) := B3.cell 0
  have c1 : xd.cell? ⟨gh, 1, none⟩ = some (.int .i64 0) := B3.cell 1
  have c2 : xd.cell? ⟨gh, 2, none⟩ = some (.int .i64 0) := B3.cell 2
  have f0 := B3.frozen 0
  have f1 := B3.frozen 1
  have f2 := B3.frozen 2
  obtain ⟨y, hy⟩ : ∃ y, ((xd.setCell ⟨gh, 0, none⟩ (.int .i64 hits)).setCell ⟨gh, 1, none⟩ (.int .i64 mis)).setCell ⟨gh, 2, none⟩ (.int .i64 (n : Int)) = y := ⟨_, rfl⟩
  have By : Blk y gh #[.int .i64 hits, .int .i64 mis, .int .i64 (n : Int)] 50 := by rw [← hy]; exact ((B3.set 0 _).set 1 _).set 2 _
  have hOy : Only (fun z => z = gh) xd y := by rw [← hy]; exact only3 xd gh _ _ _
  have hSy : Blk y pb (Pcs b jb op bw keep bv ov hits mis lost) 96 ∧ y.ownsRow base 3 1 ov n xs := ⟨hS.1.only hOy (fun q => by have := unhide HPB; omega), owns_only hS.2 hOy (fun z hz q => by have := unhide HOV z hz; omega)⟩
  have HY := hide (And.intro By (And.intro hOy hy))
  clear B3 By hOy
  refine wpAnyH_ready (rs := [13]) (by kernel_rfl) (by simp) ?_
  refine AllReadyH.cons rfl (fun K hK => ?_) AllReadyH.nil
  simp only [List.getElem_toArray, List.getElem_cons_succ, List.getElem_cons_zero]
  go_simp
  refine hK.out _ _ hSy (fun hS => ?_)
  clear hK K
  refine wpAnyH_done (by kernel_rfl) ?_ _
  go_wp2
  have hld := load_blk 50 _ (unhide HY).1 Tryz.underlying50 rfl (by kernel_rfl)
  refine bodyPost_ret (v := .agg #[.int .i64 hits, .int .i64 mis, .int .i64 (n : Int)]) (results_cell rfl _ _ _ ⟨gh, 0, none⟩ rfl _ hld) rfl ⟨rfl, ?_⟩
  have hbw := unhide HXD
  rw [← hgh]
  exact hbw.trans ((unhide HY).2.1.below (by exact hbw.size) (fun z hz q => by omega))
end Go.Proofs.YtnkaooafenakdaaGreatDoor

namespace Go.Proofs.YtnkaooafenakdaaGreatDoor
open Go.RowKit
/-- The kind of a commit's i-th act, as it is told. -/
def kindC (i : Nat) : Int := if i = 16 ∨ i = 18 ∨ i = 35 ∨ i = 37 then 2 else 1
theorem act_rec (l : List Wr1) (h : l.length ≤ 16) (i : Nat) (hi : i < 16) : (actW (recL (filled l)))[i]? = some (0, 2 + i) := by
  have h16 := filled_len l h
  have e : (actW (recL (filled l)))[i]? = some (0, (((2 + i : Nat) : Int)).toNat) := by simp [actW, recL, h16, hi]
  rw [e, Int.toNat_natCast]
theorem act_fill (l : List Wr1) (h : GoodL l) (i : Nat) (hi : i < 16) : ∃ x, 18 ≤ x ∧ (actW (filled l))[i]? = some (0, x) := by
  have h16 := filled_len l h.len
  have hi' : i < (filled l).length := by omega
  refine ⟨((filled l)[i]).1.toNat, ?_, by simp [actW, hi']⟩
  have hm := List.getElem_mem hi'
  rcases List.mem_append.1 hm with q | q
  · have := h.free _ q
    omega
  · have := List.eq_of_mem_replicate q
    rw [this]
    decide
theorem comA_form (l : List Wr1) : comA l = actW (recL (filled l)) ++ ([(1, 0), (0, 1), (1, 0)] ++ (actW (filled l) ++ [(1, 0), (0, 1), (1, 0)])) := by simp [comA]
/-- The i-th act of a commit. -/
theorem comA_at (l : List Wr1) (h : GoodL l) (i : Nat) (hi : i < 38) : ∃ p, (comA l)[i]? = some p ∧ ∃ y : Nat, tel1 p = [.int .i64 (kindC i), .int .i64 (y : Int)] ∧ (19 ≤ i → i < 35 → 18 ≤ y) ∧ (¬ (19 ≤ i ∧ i < 35) → y = if i < 16 then 2 + i else if i = 17 ∨ i = 36 then 1 else 0) := by
  have h16 := filled_len l h.len
  have e1 : (actW (recL (filled l))).length = 16 := by simp [actW, recL_len, h16]
  have e2 : (actW (filled l)).length = 16 := by simp [actW, h16]
  rw [comA_form]
  by_cases c1 : i < 16
  · refine ⟨(0, 2 + i), by rw [List.getElem?_append_left (by omega)]; exact act_rec l h.len i c1, 2 + i, ?_, by omega, fun _ => by rw [if_pos c1]⟩
    rw [kindC, if_neg (by omega)]; rfl
  · rw [List.getElem?_append_right (by omega), e1]
    by_cases c2 : i < 19
    · rw [List.getElem?_append_left (by simp; omega)]
      obtain q | q | q : i = 16 ∨ i = 17 ∨ i = 18 := by omega
      · subst q; exact ⟨(1, 0), rfl, 0, rfl, by omega, fun _ => rfl⟩
      · subst q; exact ⟨(0, 1), rfl, 1, rfl, by omega, fun _ => rfl⟩
      · subst q; exact ⟨(1, 0), rfl, 0, rfl, by omega, fun _ => rfl⟩
    · rw [List.getElem?_append_right (by simp; omega)]
      have e3 : i - 16 - ([(1, 0), (0, 1), (1, 0)] : List (Nat × Nat)).length = i - 19 := by simp; omega
      rw [e3]
      by_cases c3 : i < 35
      · rw [List.getElem?_append_left (by omega)]
        obtain ⟨x, hx, ex⟩ := act_fill l h (i - 19) (by omega)
        refine ⟨(0, x), ex, x, ?_, fun _ _ => hx, fun q => absurd ⟨by omega, c3⟩ q⟩
        rw [kindC, if_neg (by omega)]; rfl
      · rw [List.getElem?_append_right (by omega), e2]
        obtain q | q | q : i = 35 ∨ i = 36 ∨ i = 37 := by omega
        · subst q; exact ⟨(1, 0), rfl, 0, rfl, by omega, fun _ => rfl⟩
        · subst q; exact ⟨(0, 1), rfl, 1, rfl, by omega, fun _ => rfl⟩
        · subst q; exact ⟨(1, 0), rfl, 0, rfl, by omega, fun _ => rfl⟩
theorem tels_at : ∀ (l : List (Nat × Nat)) (k : Nat) (p : Nat × Nat) (a b : Value), l[k]? = some p → tel1 p = [a, b] → (tels l)[k * 2]? = some a ∧ (tels l)[k * 2 + 1]? = some b
  | q :: r, 0, p, a, b, h, e => by
    simp at h
    subst h
    simp [tels, e]
  | q :: r, k + 1, p, a, b, h, e => by
    have := tels_at r k p a b (by simpa using h) e
    rw [show (k + 1) * 2 = k * 2 + 2 by omega]
    have hl : (tel1 q).length = 2 := tel1_len q
    simp only [tels]
    constructor
    · rw [List.getElem?_append_right (by omega), hl]; simpa using this.1
    · rw [List.getElem?_append_right (by omega), hl, show k * 2 + 2 + 1 - 2 = k * 2 + 1 by omega]; exact this.2
/-- The two commits' acts, as they lie in the trace. -/
theorem trace_at {w : World} {g : Nat} {l1 l2 : List Wr1} (h1 : GoodL l1) (h2 : GoodL l2) (hB : Blk w g (tels (A0 ++ comA l1 ++ comA l2)).toArray 48) (i : Nat) (hi : i < 38) :
    ∃ x y : Nat, w.cell? ⟨g, 4 + i * 2, none⟩ = some (.int .i64 (kindC i)) ∧ w.cell? ⟨g, 4 + i * 2 + 1, none⟩ = some (.int .i64 (x : Int)) ∧ w.cell? ⟨g, 80 + i * 2, none⟩ = some (.int .i64 (kindC i)) ∧ w.cell? ⟨g, 80 + i * 2 + 1, none⟩ = some (.int .i64 (y : Int)) ∧ (19 ≤ i → i < 35 → 18 ≤ x ∧ 18 ≤ y) ∧ (¬ (19 ≤ i ∧ i < 35) → x = y) := by
  obtain ⟨p, hp, x, ex, fx, gx⟩ := comA_at l1 h1 i hi
  obtain ⟨q, hq, y, ey, fy, gy⟩ := comA_at l2 h2 i hi
  have n1 := comA_len l1 h1.len
  have hA : A0.length = 2 := rfl
  have p' : (A0 ++ comA l1 ++ comA l2)[2 + i]? = some p := by
    rw [List.append_assoc, List.getElem?_append_right (by omega), hA, Nat.add_sub_cancel_left, List.getElem?_append_left (by omega)]; exact hp
  have q' : (A0 ++ comA l1 ++ comA l2)[40 + i]? = some q := by
    rw [List.getElem?_append_right (by rw [List.length_append]; omega)]
    have : 40 + i - (A0 ++ comA l1).length = i := by rw [List.length_append]; omega
    rw [this]; exact hq
  obtain ⟨a1, a2⟩ := tels_at _ (2 + i) p _ _ p' ex
  obtain ⟨b1, b2⟩ := tels_at _ (40 + i) q _ _ q' ey
  rw [show (2 + i) * 2 = 4 + i * 2 by omega] at a1 a2
  rw [show (40 + i) * 2 = 80 + i * 2 by omega] at b1 b2
  refine ⟨x, y, by rw [hB.cell]; simpa using a1, by rw [hB.cell]; simpa using a2, by rw [hB.cell]; simpa using b1, by rw [hB.cell]; simpa using b2, fun u v => ⟨fx u v, fy u v⟩, fun u => by rw [gx u, gy u]⟩
def flC (i : Nat) : Nat := (if 16 < i then 1 else 0) + (if 18 < i then 1 else 0) + (if 35 < i then 1 else 0) + (if 37 < i then 1 else 0)
theorem one_le (p : Prop) [Decidable p] : (if p then 1 else 0) ≤ 1 := by split <;> omega
theorem flC_le (k : Nat) : flC k ≤ 4 := by
  have h1 := one_le (16 < k)
  have h2 := one_le (18 < k)
  have h3 := one_le (35 < k)
  have h4 := one_le (37 < k)
  unfold flC
  omega
theorem flC_step (i : Nat) : flC (i + 1) = flC i + (if kindC i = 2 then 1 else 0) := by
  unfold flC kindC
  by_cases h : i = 16 ∨ i = 18 ∨ i = 35 ∨ i = 37
  · rw [if_pos h, if_pos rfl]
    rcases h with h | h | h | h <;> subst h <;> decide
  · have h12 : ¬ ((1 : Int) = 2) := by decide
    rw [if_neg h, if_neg h12]
    have e1 : (16 < i + 1) ↔ (16 < i) := by omega
    have e2 : (18 < i + 1) ↔ (18 < i) := by omega
    have e3 : (35 < i + 1) ↔ (35 < i) := by omega
    have e4 : (37 < i + 1) ↔ (37 < i) := by omega
    simp only [e1, e2, e3, e4, Nat.add_zero]
end Go.Proofs.YtnkaooafenakdaaGreatDoor

namespace Go.Proofs.YtnkaooafenakdaaGreatDoor
open Go.RowKit
/-- Behind k lists: the disk, its journal, and the image that is wanted. -/
def LtR (w0 : World) (k b jb g : Nat) (L : List ByteArray) (A : List (Nat × Nat)) (want : List ByteArray) (wr : World) : Prop :=
  JK w0 wr b jb (rs L A) (k + 1) false (fun x => x = g) ∧ Strs wr (some ⟨g, 0, none⟩) want ∧ want.length = 128 ∧ L.length = 128 ∧ freeQ L want ∧ (∀ t ∈ L, t.size = 256) ∧ L.getD 1 ByteArray.empty = headB k [] ∧ A.length ≤ 2 + 38 * k
theorem L0_size : ∀ t ∈ L0, t.size = 256 := fun t ht => by
  rcases List.mem_or_eq_of_mem_set ht with q | q
  · rw [List.eq_of_mem_replicate q]; exact zero256_size
  · rw [q]; exact headB_size 0 [] (by simp)
theorem Wls.fence0 {w w' : World} {p : Option Addr} {l : List Wr1} {X : Nat → Prop} (h : Wls w p l) (ho : Only (fun x => ¬ X x) w w') (hp : 0 < l.length → ∀ g o, p = some ⟨g, o, none⟩ → X g) : Wls w' p l := by
  by_cases h0 : 0 < l.length
  · exact h.fence ho (hp h0)
  · intro j hj; omega
theorem imageK {w0 w : World} {b jb : Nat} {L : List ByteArray} {A : List (Nat × Nat)} {nx : Nat} {lost : Bool} {X : Nat → Prop} (h : JK w0 w b jb (rs L A) nx lost X) (hL : L.length = 128) : Calls Tryz.prog 28 #[.pointer (some ⟨b, 0, none⟩)] w fun e w' => ∃ g cap, e = .returned (.slice (some ⟨g, 0, none⟩) 128 cap) ∧ w.heap.size ≤ g ∧ g < w'.heap.size ∧ Strs w' (some ⟨g, 0, none⟩) L ∧ Below w.heap.size w w' := by
  obtain ⟨v, h1, _⟩ := h
  refine (image_any w _ b v _ h1 (by show 0 < L.length; omega) (by show L.length ≤ 1024; omega)).mono ?_
  rintro e w' ⟨v', rfl, hr, hb⟩
  have hr' : w'.ownsRow w.heap.size 9 1 v' L.length (strs L) := hr
  obtain ⟨g, cap, e, hg1, hg2⟩ := hr'.form (by omega)
  obtain ⟨p', c', e2, hs⟩ := Strs.own hr'
  rw [e] at e2
  simp at e2
  obtain ⟨rfl, rfl⟩ := e2
  have hlt := hr'.lt g (by rw [e]; rfl)
  exact ⟨g, cap, by rw [e, hL], hlt.1, hlt.2, hs, hb⟩
theorem load128 (w : World) (p : Option Addr) (c : Nat) (L : List ByteArray) (hL : L.length = 128) (hs : ∀ t ∈ L, t.size = 256) (h : Strs w p L) : Calls Tryz.prog 27 #[.slice p 128 c] w fun e w' => ∃ b v, e = .returned (.tuple #[.pointer (some ⟨b, 0, none⟩), .int .i64 0]) ∧ Dk w' w.heap.size b v (rs L []) ∧ Below w.heap.size w w' := by
  have := load_any p c L w h
  rw [hL] at this
  refine this.mono ?_
  intro e w' hP
  rw [LoadPost, if_pos ⟨by omega, by omega⟩, if_pos hs] at hP
  exact hP
/-- What a list is to the fence: its block, if it has any write. -/
def Xl (g : Nat) (q : Option Addr) (l : List Wr1) (x : Nat) : Prop := x = g ∨ (0 < l.length ∧ ∃ o, q = some ⟨x, o, none⟩)
end Go.Proofs.YtnkaooafenakdaaGreatDoor

namespace Go.Proofs.YtnkaooafenakdaaGreatDoor
open Go.ChangeShapes Go.WideShapes Go.ChangeAt Go.RowKit
theorem own : ownKnob Tryz.prog.godebug = none := by kernel_rfl
theorem laidOut : laidOutB Tryz.prog = true := by kernel_rfl
theorem gEt : Tryz.prog.globalNamed "errors.errorType" = some 1 := by kernel_rfl
theorem gRt : (Tryz.prog.cutTypes.find? (·.1 == "internal/reflectlite.rtype")).map (·.2) = some 249 := by kernel_rfl
theorem gOne : ((List.range 287).filter fun t => Tryz.prog.rowNamed t [101, 114, 114, 111, 114]) = [163] := by kernel_rfl
theorem gSize : Tryz.prog.types.size = 287 := by kernel_rfl
def laidL : List (String × DataW Unit) := [("errors.errorType", Rows.laid_errors_errorType)]
theorem wf_I64 {z : Int} (h : (Lit.int .i64 z).wf = true) : I64 z := by
  simpa [I64, Lit.wf, IntKind.min, IntKind.max, IntKind.signed, IntKind.bits] using h
/-- What the row's list gives. -/
theorem ety_of {W : World} (h : laidMetH Tryz.prog laidL W) : ETy W := by
  have h' : laidMet Tryz.prog [] W ∧ handlesMet Tryz.prog laidL W := h
  obtain ⟨name, u, ty, e1, e2, e3, e4, e5⟩ := h'.2 _ (List.mem_singleton.2 rfl)
  have en : name = [101, 114, 114, 111, 114] := (Option.some.inj e1).symm
  subst en
  obtain rfl := Option.some.inj (gRt.symm.trans e2)
  have hm : ty ∈ (List.range 287).filter fun t => Tryz.prog.rowNamed t [101, 114, 114, 111, 114] := List.mem_filter.2 ⟨List.mem_range.2 (by rw [← gSize]; exact e3), e4⟩
  rw [gOne] at hm
  obtain rfl := List.mem_singleton.1 hm
  have hh : typeHandle Tryz.prog 163 = .pointer (some ⟨2, 163, none⟩) := by kernel_rfl
  rw [hh] at e5
  have := World.var?_cell gEt e5 0
  unfold ETy
  simpa using this
/-- A world for the witness: the settled one, the variable's cell laid. -/
noncomputable def laidWorld (os : Os) : World :=
  let w0 := World.holding Tryz.prog os ⟨#[], #[], []⟩
  { w0 with heap := w0.heap.modify 1 fun
      | .cells _ t frozen => .cells #[.iface 249 (.agg #[.pointer (some ⟨2, 163, none⟩)])] t frozen
      | o => o }
end Go.Proofs.YtnkaooafenakdaaGreatDoor
