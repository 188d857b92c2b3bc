import Derived.Test.YtpcmifmgkccfnaaGreatDoorMv06
import Derived.Test.YtpcmifmgkccfnaaGreatDoorMv05
import Derived.Laws.BytesArg
import Derived.Laws.Tables
import Derived.Deep.MidRow
import Derived.BigQuiet
import Derived.WalkMore
import Derived.Test.YtpcmifmgkccfnaaGreatDoorMv00
import Derived.StillTailTactics
namespace Go.Proofs.YtpcmifmgkccfnaaGreatDoor
open Go.RowKit
theorem num_step (k : Nat) (h1 : 1 ≤ k) (h8 : k ≤ 8) (A : Int) (hf : fitsP A k) (hA : A ≤ 9223372036854775807) (L : List Int) (hL : Bytes L) (t : Int) :
    numE (k : Int) (strOfNums (numB A k ++ L)) = 0 ∧ numV (k : Int) (strOfNums (numB A k ++ L)) = A ∧ stepR ⟨strOfNums (numB A k ++ L), t, 0⟩ (numE (k : Int) (strOfNums (numB A k ++ L))) ((k : Int).toNat) = ⟨strOfNums L, t + (k : Int), 0⟩ := by
  have hb : Bytes (numB A k ++ L) := bytes_app (numB_bytes A k) hL
  have hn : nums (strOfNums (numB A k ++ L)) = numB A k ++ L := nums_strOfNums _ hb
  have hs : (strOfNums (numB A k ++ L)).size = k + L.length := by rw [strOfNums_size, List.length_append, numB_len]
  have ht : (nums (strOfNums (numB A k ++ L))).take k = numB A k := by rw [hn, List.take_left' (numB_len A k)]
  have hE : numE (k : Int) (strOfNums (numB A k ++ L)) = 0 := by
    rw [numE, if_neg (by omega), if_neg (by omega), Int.toNat_natCast, ht, be_numB A k hf, if_neg (by omega)]
  refine ⟨hE, ?_, ?_⟩
  · rw [numV, if_pos hE, Int.toNat_natCast, ht, be_numB A k hf]
  · unfold stepR
    rw [hE, Int.toNat_natCast]
    simp only [if_true, rRest, rTak]
    congr 1
    apply nums_inj
    rw [nums_tail, hn, nums_strOfNums L hL, List.drop_left' (numB_len A k)]
theorem wnumK {w wr : World} {base b : Nat} {v : Value} {l : List Int} (h : WPost base b v l 0 w wr) (hb : base ≤ w.heap.size) (k : Nat) (h1 : 1 ≤ k) (h8 : k ≤ 8) (n : Int) (hf : fitsP n k) (hsz : l.length ≤ 1000) (K : Int) (hK : K = (k : Int)) (l' : List Int) (hl : l ++ numB n k = l') :
    Calls Tryz.prog 111 #[.pointer (some ⟨b, 0, none⟩), .int .i64 K, .slice (some ⟨wr.heap.size, 0, none⟩) 1 1] (wr.alloc (Obj.cells #[.int .i64 n] 3)) fun ev w' => ev = .returned (.tuple #[]) ∧ WPost base b v l' 0 w w' := by
  subst hK
  refine (numK h hb (k : Int) [n] #[.int .i64 n] rfl (by simp; omega) 1 rfl).mono ?_
  rintro ev w' ⟨rfl, hp⟩
  have hE : errN (k : Int) [n] = 0 := by
    rw [errN, if_neg (by omega), if_pos]
    intro m hm
    simp at hm
    subst hm
    exact hf
  rw [hE, wl_good, we_good] at hp
  have ho : outN ((k : Int).toNat) [n] = numB n k := by simp [outN]
  rw [ho, hl] at hp
  exact ⟨rfl, hp⟩
theorem rnumK {w : World} {b : Nat} {k : Nat} {A : Int} {L : List Int} {t : Int} (h : Rds w b ⟨strOfNums (numB A k ++ L), t, 0⟩) (hg : ETy w) (h1 : 1 ≤ k) (h8 : k ≤ 8) (hf : fitsP A k) (hA : A ≤ 9223372036854775807) (hL : Bytes L) (ht : 0 ≤ t) (hs : t + ((k + L.length : Nat) : Int) ≤ 9223372036854775807) (K : Int) (hK : K = (k : Int)) (t' : Int) (ht' : t + (k : Int) = t') :
    Calls Tryz.prog 121 #[.pointer (some ⟨b, 0, none⟩), .int .i64 K] w fun ev w' => ev = .returned (.int .i64 A) ∧ Rds w' b ⟨strOfNums L, t', 0⟩ ∧ Only (fun k => k = b) w w' := by
  subst hK
  obtain ⟨q1, q2, q3⟩ := num_step k h1 h8 A hf hA L hL t
  refine (numS w b ⟨strOfNums (numB A k ++ L), t, 0⟩ h hg ⟨ht, by show t + (((strOfNums (numB A k ++ L)).size : Nat) : Int) ≤ _; rw [strOfNums_size, List.length_append, numB_len]; exact hs⟩ (k : Int)).mono ?_
  rintro ev w' ⟨rfl, g1, g2⟩
  refine ⟨by simp only [if_true]; rw [q2], ?_, g2⟩
  rw [q3, ht'] at g1
  exact g1

theorem iload_blk {W : World} {b : Nat} {cur : Array Value} {T : TypeId} (ty : TypeId) (d : TypeDesc) (h : Blk W b cur T) (hu : Tryz.prog.underlying ty = some d) (hd : d.isRow = true) (hi : (Tryz.prog.info? ty).map (·.size) = some cur.size) : (loadVar ty ⟨b, 0, none⟩).run Tryz.prog W = .ok (.agg cur) W := by
  have := run_loadVar_mid (P := Tryz.prog) W b 0 ty cur.toList d (fun j v hv => by rw [Nat.zero_add, h.cell j]; simpa using hv) hu hd (by simpa using hi)
  simpa using this
theorem results_cell2 {fn : Func} {p q : Tmp} {ty : TypeId} (h : fn.results = #[.cell p ty, .tmp q]) (tmps : Array Value) (P : Program) (w : World) (ad : Addr) (ha : tmps.getD p undef = .pointer (some ad)) (v : Value) (hl : (loadVar ty ad).run P w = .ok v w) :
    (results fn tmps).run P w = .ok (.tuple #[v, tmps.getD q undef]) w := by
  have ha' : tmps[p]?.getD undef = .pointer (some ad) := by simpa using ha
  simp only [results, h]
  simp [ha', asAddr, hl]
theorem blk_there {W : World} {g : Nat} {cur : Array Value} {T : TypeId} (h : Blk W g cur T) (n : Nat) (hn : n = cur.size) : W.there g 0 n := fun j hj => ⟨by rw [h.cell, Nat.zero_add]; simp; omega, h.frozen _⟩
theorem setCells_blk : ∀ (vs pre post : List Value) {w : World} {b : Nat} {cur : Array Value} {T : TypeId} (_ : Blk w b cur T) (mid : List Value) (_ : mid.length = vs.length) (_ : cur = (pre ++ mid ++ post).toArray), Blk (w.setCells b pre.length vs) b (pre ++ vs ++ post).toArray T
  | [], pre, post, w, b, cur, T, h, mid, hm, hc => by
    have : mid = [] := List.length_eq_zero_iff.1 hm
    subst this
    rw [World.setCells, ← hc]
    exact h
  | v :: r, pre, post, w, b, cur, T, h, mid, hm, hc => by
    cases mid with
    | nil => simp at hm
    | cons x m =>
      rw [World.setCells]
      have h1 := h.set pre.length v
      have e1 : cur.setIfInBounds pre.length v = ((pre ++ [v]) ++ m ++ post).toArray := by
        rw [hc]
        apply Array.ext'
        simp
      have := setCells_blk r (pre ++ [v]) post h1 m (by simpa using hm) e1
      simpa using this
theorem blk_cells_other : ∀ (vs : List Value) (o : Nat) {w : World} {b : Nat} {cur : Array Value} {T : TypeId} (_ : Blk w b cur T) (b' : Nat) (_ : b' ≠ b), Blk (w.setCells b' o vs) b cur T
  | [], _, _, _, _, _, h, _, _ => h
  | v :: r, o, w, b, cur, T, h, b', hb => by
    rw [World.setCells]
    exact blk_cells_other r (o + 1) (h.other _ v hb) b' hb
theorem only_cells {w : World} (b o : Nat) (vs : List Value) {P : Nat → Prop} (hP : P b) : Only P w (w.setCells b o vs) := by
  induction vs generalizing w o with
  | nil => exact Only.refl _ _
  | cons v r ih =>
    rw [World.setCells]
    exact ((Only.refl P w).setCell ⟨b, o, none⟩ v (fun _ => hP)).trans (ih _) (fun _ _ q => q)
theorem blk_range {W : World} {g : Nat} {cs : List Value} {T : TypeId} (h : Blk W g cs.toArray T) : W.rangeAt g 0 cs := fun j v hv => by
  rw [h.cell, Nat.zero_add]
  simpa using hv
/-- A block is set as a whole. -/
theorem setCells_all {w : World} {b : Nat} {cur : Array Value} {T : TypeId} (h : Blk w b cur T) (vs : List Value) (hl : cur.size = vs.length) : Blk (w.setCells b 0 vs) b vs.toArray T := by
  have := setCells_blk vs [] [] h cur.toList (by simpa using hl) (by simp)
  simpa using this
/-- Two numbers of one size are written. -/
theorem wnum2K {w wr : World} {base b : Nat} {v : Value} {l : List Int} (h : WPost base b v l 0 w wr) (hb : base ≤ w.heap.size) (k : Nat) (h1 : 1 ≤ k) (h8 : k ≤ 8) (n m : Int) (hf : fitsP n k) (hf2 : fitsP m k) (hsz : l.length ≤ 1000) (K : Int) (hK : K = (k : Int)) (l' : List Int) (hl : l ++ (numB n k ++ numB m k) = l') :
    Calls Tryz.prog 111 #[.pointer (some ⟨b, 0, none⟩), .int .i64 K, .slice (some ⟨wr.heap.size, 0, none⟩) 2 2] (wr.alloc (Obj.cells #[.int .i64 n, .int .i64 m] 3)) fun ev w' => ev = .returned (.tuple #[]) ∧ WPost base b v l' 0 w w' := by
  subst hK
  refine (numK h hb (k : Int) [n, m] #[.int .i64 n, .int .i64 m] rfl (by simp; omega) 2 rfl).mono ?_
  rintro ev w' ⟨rfl, hp⟩
  have hE : errN (k : Int) [n, m] = 0 := by
    rw [errN, if_neg (by omega), if_pos]
    intro x hm
    simp at hm
    rcases hm with rfl | rfl
    · exact hf
    · exact hf2
  rw [hE, wl_good, we_good] at hp
  have ho : outN ((k : Int).toNat) [n, m] = numB n k ++ numB m k := by simp [outN]
  rw [ho, hl] at hp
  exact ⟨rfl, hp⟩
theorem sizeRec : (Tryz.prog.info? 88).map (·.size) = some 20 := by kernel_rfl
theorem sizeRol : (Tryz.prog.info? 90).map (·.size) = some 160 := by kernel_rfl
theorem sizeVol : (Tryz.prog.info? 54).map (·.size) = some 2 := by kernel_rfl
theorem sizeVls : (Tryz.prog.info? 86).map (·.size) = some 16 := by kernel_rfl
/-- The cells of a record. -/
def vC (f : Nat → Nat × Nat) : List Value := [.int .i64 ((f 0).1 : Int), .int .i64 ((f 0).2 : Int), .int .i64 ((f 1).1 : Int), .int .i64 ((f 1).2 : Int), .int .i64 ((f 2).1 : Int), .int .i64 ((f 2).2 : Int), .int .i64 ((f 3).1 : Int), .int .i64 ((f 3).2 : Int), .int .i64 ((f 4).1 : Int), .int .i64 ((f 4).2 : Int), .int .i64 ((f 5).1 : Int), .int .i64 ((f 5).2 : Int), .int .i64 ((f 6).1 : Int), .int .i64 ((f 6).2 : Int), .int .i64 ((f 7).1 : Int), .int .i64 ((f 7).2 : Int)]
def rC (th : Bool) (q c n : Nat) (f : Nat → Nat × Nat) : List Value := .bool th :: .int .i64 (q : Int) :: .int .i64 (c : Int) :: .int .i64 (n : Int) :: vC f
def rV (r : Rc) : List Value := rC r.th r.q r.c r.v.length r.at
theorem rC_len (th : Bool) (q c n : Nat) (f : Nat → Nat × Nat) : (rC th q c n f).length = 20 := rfl
theorem rV_len (r : Rc) : (rV r).length = 20 := rfl
theorem rC_one (th : Bool) (q c n : Nat) (f : Nat → Nat × Nat) : (rC th q c n f).toArray.all (·.oneCell') = true := by simp [rC, vC, Value.oneCell']
theorem rV_one (r : Rc) : (rV r).toArray.all (·.oneCell') = true := rC_one _ _ _ _ _
theorem lt8 {k : Nat} (h : k < 8) : k = 0 ∨ k = 1 ∨ k = 2 ∨ k = 3 ∨ k = 4 ∨ k = 5 ∨ k = 6 ∨ k = 7 := by omega
theorem rC_at (th : Bool) (q c n : Nat) (f : Nat → Nat × Nat) (k : Nat) (h : k < 8) : (rC th q c n f).toArray[4 + k * 2]? = some (.int .i64 ((f k).1 : Int)) ∧ (rC th q c n f).toArray[4 + k * 2 + 1]? = some (.int .i64 ((f k).2 : Int)) := by
  rcases lt8 h with rfl | rfl | rfl | rfl | rfl | rfl | rfl | rfl <;> exact ⟨rfl, rfl⟩
theorem rC_set1 (th : Bool) (q c n : Nat) (f : Nat → Nat × Nat) (k : Nat) (h : k < 8) (x : Nat) : (rC th q c n f).toArray.setIfInBounds (4 + k * 2) (.int .i64 (x : Int)) = (rC th q c n (ups f k (x, (f k).2))).toArray := by
  rcases lt8 h with rfl | rfl | rfl | rfl | rfl | rfl | rfl | rfl <;> simp [rC, vC, ups]
theorem rC_set2 (th : Bool) (q c n : Nat) (f : Nat → Nat × Nat) (k : Nat) (h : k < 8) (x : Nat) : (rC th q c n f).toArray.setIfInBounds (4 + k * 2 + 1) (.int .i64 (x : Int)) = (rC th q c n (ups f k ((f k).1, x))).toArray := by
  rcases lt8 h with rfl | rfl | rfl | rfl | rfl | rfl | rfl | rfl <;> simp [rC, vC, ups]
theorem rC_zero (th : Bool) : (rC th 0 0 0 (fun _ => (0, 0))).toArray = #[.bool th, .int .i64 0, .int .i64 0, .int .i64 0, .int .i64 0, .int .i64 0, .int .i64 0, .int .i64 0, .int .i64 0, .int .i64 0, .int .i64 0, .int .i64 0, .int .i64 0, .int .i64 0, .int .i64 0, .int .i64 0, .int .i64 0, .int .i64 0, .int .i64 0, .int .i64 0] := rfl
theorem rV_zero : (rV Rc0).toArray = #[.bool false, .int .i64 0, .int .i64 0, .int .i64 0, .int .i64 0, .int .i64 0, .int .i64 0, .int .i64 0, .int .i64 0, .int .i64 0, .int .i64 0, .int .i64 0, .int .i64 0, .int .i64 0, .int .i64 0, .int .i64 0, .int .i64 0, .int .i64 0, .int .i64 0, .int .i64 0] := rfl
theorem rC_congr (th : Bool) (q c n : Nat) (f g : Nat → Nat × Nat) (h : ∀ k, k < 8 → f k = g k) : rC th q c n f = rC th q c n g := by
  simp only [rC, vC, h 0 (by omega), h 1 (by omega), h 2 (by omega), h 3 (by omega), h 4 (by omega), h 5 (by omega), h 6 (by omega), h 7 (by omega)]
/-- The first k volumes. -/
def cutV (f : Nat → Nat × Nat) (k : Nat) : Nat → Nat × Nat := fun i => if i < k then f i else (0, 0)
theorem cutV_0 (f : Nat → Nat × Nat) : cutV f 0 = fun _ => (0, 0) := by funext l; simp [cutV]
theorem cutV_succ (f : Nat → Nat × Nat) (k : Nat) : ups (cutV f k) k (f k) = cutV f (k + 1) := by
  funext l
  unfold ups cutV
  by_cases e : l = k
  · subst e; rw [if_pos rfl, if_pos (by omega)]
  · rw [if_neg e]
    by_cases h : l < k
    · rw [if_pos h, if_pos (by omega)]
    · rw [if_neg h, if_neg (by omega)]
theorem ups_ups {α : Type} (f : Nat → α) (k : Nat) (x y : α) : ups (ups f k x) k y = ups f k y := by
  funext l
  unfold ups
  by_cases e : l = k
  · rw [if_pos e, if_pos e]
  · rw [if_neg e, if_neg e, if_neg e]
theorem ups_self {α : Type} (f : Nat → α) (k : Nat) : ups f k (f k) = f := by
  funext l
  unfold ups
  by_cases e : l = k
  · rw [if_pos e, e]
  · rw [if_neg e]
theorem rC_cut (th : Bool) (q c n : Nat) (f : Nat → Nat × Nat) : rC th q c n (cutV f 8) = rC th q c n f := rC_congr _ _ _ _ _ _ (fun k hk => by unfold cutV; rw [if_pos hk])
/-- The cells of all records. -/
def lC (R : Nat → Rc) : List Value := (rV (R 0) ++ (rV (R 1) ++ (rV (R 2) ++ (rV (R 3) ++ (rV (R 4) ++ (rV (R 5) ++ (rV (R 6) ++ (rV (R 7)))))))))
theorem lC_len (R : Nat → Rc) : (lC R).length = 160 := by simp only [lC, List.length_append, rV_len]
theorem all_app (a b : List Value) (ha : a.toArray.all (·.oneCell') = true) (hb : b.toArray.all (·.oneCell') = true) : (a ++ b).toArray.all (·.oneCell') = true := by
  rw [List.all_toArray] at *
  rw [List.all_append, ha, hb]
  rfl
theorem lC_one (R : Nat → Rc) : (lC R).toArray.all (·.oneCell') = true := all_app _ _ (rV_one _) (all_app _ _ (rV_one _) (all_app _ _ (rV_one _) (all_app _ _ (rV_one _) (all_app _ _ (rV_one _) (all_app _ _ (rV_one _) (all_app _ _ (rV_one _) (rV_one _)))))))
theorem lC_split (R : Nat → Rc) (k : Nat) (h : k < 8) : ∃ pre post, pre.length = k * 20 ∧ ∀ r, lC (ups R k r) = pre ++ rV r ++ post := by
  rcases lt8 h with rfl | rfl | rfl | rfl | rfl | rfl | rfl | rfl
  · exact ⟨[], rV (R 1) ++ rV (R 2) ++ rV (R 3) ++ rV (R 4) ++ rV (R 5) ++ rV (R 6) ++ rV (R 7), rfl, fun r => by simp [lC, ups]⟩
  · exact ⟨rV (R 0), rV (R 2) ++ rV (R 3) ++ rV (R 4) ++ rV (R 5) ++ rV (R 6) ++ rV (R 7), rfl, fun r => by simp [lC, ups]⟩
  · exact ⟨rV (R 0) ++ rV (R 1), rV (R 3) ++ rV (R 4) ++ rV (R 5) ++ rV (R 6) ++ rV (R 7), rfl, fun r => by simp [lC, ups]⟩
  · exact ⟨rV (R 0) ++ rV (R 1) ++ rV (R 2), rV (R 4) ++ rV (R 5) ++ rV (R 6) ++ rV (R 7), rfl, fun r => by simp [lC, ups]⟩
  · exact ⟨rV (R 0) ++ rV (R 1) ++ rV (R 2) ++ rV (R 3), rV (R 5) ++ rV (R 6) ++ rV (R 7), rfl, fun r => by simp [lC, ups]⟩
  · exact ⟨rV (R 0) ++ rV (R 1) ++ rV (R 2) ++ rV (R 3) ++ rV (R 4), rV (R 6) ++ rV (R 7), rfl, fun r => by simp [lC, ups]⟩
  · exact ⟨rV (R 0) ++ rV (R 1) ++ rV (R 2) ++ rV (R 3) ++ rV (R 4) ++ rV (R 5), rV (R 7), rfl, fun r => by simp [lC, ups]⟩
  · exact ⟨rV (R 0) ++ rV (R 1) ++ rV (R 2) ++ rV (R 3) ++ rV (R 4) ++ rV (R 5) ++ rV (R 6), [], rfl, fun r => by simp [lC, ups]⟩
theorem lC_congr (R Q : Nat → Rc) (h : ∀ k, k < 8 → R k = Q k) : lC R = lC Q := by
  simp only [lC, h 0 (by omega), h 1 (by omega), h 2 (by omega), h 3 (by omega), h 4 (by omega), h 5 (by omega), h 6 (by omega), h 7 (by omega)]
set_option maxRecDepth 100000 in
theorem lC_zero : (lC (fun _ => Rc0)).toArray = Tryz.zeroCells90 := rfl
theorem lC_get (R : Nat → Rc) (k : Nat) (h : k < 8) (j : Nat) (hj : j < 20) : (lC R)[k * 20 + j]? = (rV (R k))[j]? := by
  obtain ⟨pre, post, h1, h2⟩ := lC_split R k h
  have e := h2 (R k)
  rw [ups_self] at e
  rw [e, List.append_assoc, List.getElem?_append_right (by omega), h1, show k * 20 + j - k * 20 = j by omega, List.getElem?_append_left (by rw [rV_len]; exact hj)]
theorem lC_range {W : World} {g : Nat} {R : Nat → Rc} {T : TypeId} (h : Blk W g (lC R).toArray T) (k : Nat) (hk : k < 8) : W.rangeAt g (k * 20) (rV (R k)) := fun j v hv => by
  have hj : j < 20 := by
    have := (List.getElem?_eq_some_iff.1 hv).1
    rwa [rV_len] at this
  rw [h.cell]
  have := lC_get R k hk j hj
  simp only [List.getElem?_toArray]
  rw [this]
  exact hv
theorem lC_set {W : World} {g : Nat} {R : Nat → Rc} {T : TypeId} (h : Blk W g (lC R).toArray T) (k : Nat) (hk : k < 8) (r : Rc) : Blk (W.setCells g (k * 20) (rV r)) g (lC (ups R k r)).toArray T := by
  obtain ⟨pre, post, h1, h2⟩ := lC_split R k hk
  have e := h2 (R k)
  rw [ups_self] at e
  have := setCells_blk (rV r) pre post h (rV (R k)) rfl (by rw [e])
  rw [h1] at this
  rw [h2 r]
  exact this
theorem lC_there {W : World} {g : Nat} {R : Nat → Rc} {T : TypeId} (h : Blk W g (lC R).toArray T) (k : Nat) (hk : k < 8) : W.there g (k * 20) 20 := fun j hj => ⟨by rw [h.cell]; simp [lC_len]; omega, h.frozen _⟩
/-- The records of the first k tenants. -/
def cutR (R : Nat → Rc) (k : Nat) : Nat → Rc := fun i => if i < k then R i else Rc0
theorem cutR_0 (R : Nat → Rc) : cutR R 0 = fun _ => Rc0 := by funext l; simp [cutR]
theorem cutR_succ (R : Nat → Rc) (k : Nat) : ups (cutR R k) k (R k) = cutR R (k + 1) := by
  funext l
  unfold ups cutR
  by_cases e : l = k
  · subst e; rw [if_pos rfl, if_pos (by omega)]
  · rw [if_neg e]
    by_cases h : l < k
    · rw [if_pos h, if_pos (by omega)]
    · rw [if_neg h, if_neg (by omega)]
theorem lC_cut (R : Nat → Rc) : lC (cutR R 8) = lC R := lC_congr _ _ (fun k hk => by unfold cutR; rw [if_pos hk])
/-- A load of a row under a guard that lets it by. -/
theorem wpList_load_midG {ops : Array Oper} {rest : List Oper} {op : Oper} {a : Act} {w : World} {Q : Exit → Act → World → Prop} (hw : Region.wanted op (yielded ops a.tmps) = true) (ty : TypeId) (x : Operand) (ho : op.op = .load ty x) (b o : Nat) (hx : a.eval x = .pointer (some ⟨b, o, none⟩)) (cs : List Value) (d : TypeDesc) (hc : w.rangeAt b o cs) (hu : Tryz.prog.underlying ty = some d) (hd : d.isRow = true) (hi : (Tryz.prog.info? ty).map (·.size) = some cs.length) (h : wpList Tryz.prog ops Q rest (a.put op.dst (.agg cs.toArray)) w) : wpList Tryz.prog ops Q (op :: rest) a w :=
  wpList_step fun K hK => by simp only [hw, if_true]; exact wp_load_mid ty x ho b o hx cs d hc hu hd hi (hK _ _ h)
theorem index_rol (R : Nat → Rc) (k : Nat) (hk : k < 8) (w : World) : (Instr.index 90 (.agg (lC R).toArray) (.int .i64 (k : Int))).run Tryz.prog w = .ok (.agg (rV (R k)).toArray) w := by
  rcases lt8 hk with rfl | rfl | rfl | rfl | rfl | rfl | rfl | rfl <;> kernel_rfl
theorem index_vls (f : Nat → Nat × Nat) (k : Nat) (hk : k < 8) (w : World) : (Instr.index 86 (.agg (vC f).toArray) (.int .i64 (k : Int))).run Tryz.prog w = .ok (.agg #[.int .i64 ((f k).1 : Int), .int .i64 ((f k).2 : Int)]) w := by
  rcases lt8 hk with rfl | rfl | rfl | rfl | rfl | rfl | rfl | rfl <;> kernel_rfl
end Go.Proofs.YtpcmifmgkccfnaaGreatDoor

namespace Go.Proofs.YtpcmifmgkccfnaaGreatDoor
open Go.RowKit
set_option maxRecDepth 100000
theorem isTenant_ok (z : Nat) (h1 : 1 ≤ z) (h8 : z ≤ 8) (w : World) : Calls Tryz.prog 132 #[.int .i64 (z : Int)] w fun e w' => e = .returned (.bool true) ∧ w' = w := by
  have hd : decide ((1 : Int) ≤ (z : Int)) = true := by simp; try omega
  have hd2 : decide ((z : Int) ≤ 8) = true := by simp; omega
  clear h1 h8
  go_enter Tryz.func132, Tryz.ntmps132
  go_wp2
  go_ret
  exact ⟨rfl, rfl⟩
theorem isQuota_ok (z : Nat) (h1 : 0 ≤ z) (h8 : z ≤ 65535) (w : World) : Calls Tryz.prog 133 #[.int .i64 (z : Int)] w fun e w' => e = .returned (.bool true) ∧ w' = w := by
  have hd : decide ((0 : Int) ≤ (z : Int)) = true := by simp; try omega
  have hd2 : decide ((z : Int) ≤ 65535) = true := by simp; omega
  clear h1 h8
  go_enter Tryz.func133, Tryz.ntmps133
  go_wp2
  go_ret
  exact ⟨rfl, rfl⟩
theorem isVolume_ok (a b : Nat) (h1 : a ≤ 99) (h2 : b ≤ 1023) (w : World) : Calls Tryz.prog 134 #[.agg #[.int .i64 (a : Int), .int .i64 (b : Int)]] w fun e w' => e = .returned (.bool true) ∧ Below w.heap.size w w' := by
  have d1 : decide ((0 : Int) ≤ (a : Int)) = true := by simp
  have d2 : decide ((a : Int) ≤ 99) = true := by simp; omega
  have d3 : decide ((0 : Int) ≤ (b : Int)) = true := by simp
  have d4 : decide ((b : Int) ≤ 1023) = true := by simp; omega
  clear h1 h2
  go_enter Tryz.func134, Tryz.ntmps134
  go_wp2
  go_ret
  exact ⟨rfl, (Below.refl _ _).alloc (Nat.le_refl _) _⟩
theorem isCap_any (z : Int) (w : World) : Calls Tryz.prog 30 #[.int .i64 z] w fun e w' => e = .returned (.bool (decide (0 ≤ z) && decide (z ≤ 1024))) ∧ w' = w := by
  by_cases h0 : 0 ≤ z
  · have hd : decide ((0 : Int) ≤ z) = true := by simpa using h0
    rw [hd, Bool.true_and]
    clear h0
    generalize hdz : decide (z ≤ 1024) = dz at *
    go_enter Tryz.func30, Tryz.ntmps30
    go_wp2
    go_ret
    exact ⟨rfl, rfl⟩
  · have hd : decide ((0 : Int) ≤ z) = false := by simpa using h0
    rw [hd, Bool.false_and]
    clear h0
    go_enter Tryz.func30, Tryz.ntmps30
    go_wp2
    go_ret
    exact ⟨rfl, rfl⟩
/-- What is asked. -/
def akA (t q a b : Nat) (m : Int) : Value := .agg #[.int .i64 (t : Int), .int .i64 (q : Int), .int .i64 (a : Int), .int .i64 (b : Int), .int .i64 m]
structure AOk (t q a b : Nat) : Prop where
  t1 : 1 ≤ t
  t8 : t ≤ 8
  q : q ≤ 65535
  a : a ≤ 99
  b : b ≤ 1023
theorem isRight_ok (t q a b : Nat) (m : Int) (h : AOk t q a b) (w : World) : Calls Tryz.prog 77 #[akA t q a b m] w fun e w' => e = .returned (.bool true) ∧ Below w.heap.size w w' := by
  have H1 := hide (fun W => isTenant_ok t h.t1 h.t8 W)
  have H2 := hide (fun W => isQuota_ok q (Nat.zero_le _) h.q W)
  have H3 := hide (fun W => isVolume_ok a b h.a h.b W)
  clear h
  unfold akA
  go_enter Tryz.func77, Tryz.ntmps77
  go_wp2_with (first | (go_at_call 132; refine (unhide H1 _).mono ?_; rintro e w' ⟨rfl, hw'⟩; subst w') | (go_at_call 133; refine (unhide H2 _).mono ?_; rintro e w' ⟨rfl, hw'⟩; subst w') | (go_at_call 134; refine (unhide H3 _).mono ?_; rintro e w' ⟨rfl, hb'⟩))
  go_ret
  exact ⟨rfl, ((Below.refl _ _).alloc (Nat.le_refl _) _).trans (hb'.mono (by simp))⟩
/-- A table's cells. -/
def Tbv (pb a cap : Nat) : Array Value := #[.pointer (some ⟨pb, 0, none⟩), .int .i64 (a : Int), .int .i64 (cap : Int)]
theorem tSector_any {w : World} {tb pb a cap : Nat} (h : Blk w tb (Tbv pb a cap) 85) (ha : a ≤ 1024) (k : Nat) (hk : k < 8) : Calls Tryz.prog 73 #[.pointer (some ⟨tb, 0, none⟩), .int .i64 ((k + 1 : Nat) : Int)] w fun e w' => e = .returned (.int .i64 ((a + k : Nat) : Int)) ∧ w' = w := by
  have c1 : w.cell? ⟨tb, 1, none⟩ = some (.int .i64 (a : Int)) := by rw [h.cell]; rfl
  have e1 : (a : Int) + ((k + 1 : Nat) : Int) = ((a + k + 1 : Nat) : Int) := by omega
  have e2 : ((a + k + 1 : Nat) : Int) - 1 = ((a + k : Nat) : Int) := by omega
  have h1 : IntKind.i64.wrap ((a + k + 1 : Nat) : Int) = ((a + k + 1 : Nat) : Int) := wrapI_eq _ (by omega) (by omega)
  have h2 : IntKind.i64.wrap ((a + k : Nat) : Int) = ((a + k : Nat) : Int) := wrapI_eq _ (by omega) (by omega)
  generalize ((k + 1 : Nat) : Int) = kk at *
  generalize ((a + k + 1 : Nat) : Int) = ak1 at *
  generalize ((a + k : Nat) : Int) = ak at *
  clear h
  go_enter Tryz.func73, Tryz.ntmps73
  go_wp2
  go_ret
  exact ⟨rfl, rfl⟩
/-- The table of changes. -/
def fnV (k : Nat) : Value := .func (.func k) #[] #[]
set_option maxRecDepth 100000 in
set_option maxHeartbeats 2000000 in
theorem rOf_any (R : Nat → Rc) (k : Nat) (hk : k < 8) (w : World) : Calls Tryz.prog 79 #[.agg (lC R).toArray, .int .i64 ((k + 1 : Nat) : Int)] w fun e w' => e = .returned (.agg (rV (R k)).toArray) ∧ Below w.heap.size w w' := by
  obtain ⟨g, hg⟩ : ∃ g, w.heap.size = g := ⟨_, rfl⟩
  obtain ⟨x2, hx2⟩ : ∃ q, (w.alloc (.cells (lC R).toArray 90)).alloc (.cells #[.bool false, .int .i64 0, .int .i64 0, .int .i64 0, .int .i64 0, .int .i64 0, .int .i64 0, .int .i64 0, .int .i64 0, .int .i64 0, .int .i64 0, .int .i64 0, .int .i64 0, .int .i64 0, .int .i64 0, .int .i64 0, .int .i64 0, .int .i64 0, .int .i64 0, .int .i64 0] 88) = q := ⟨_, rfl⟩
  have B : Blk x2 g (lC R).toArray 90 := by rw [← hx2, ← hg]; exact (Blk.new w _ _).alloc _
  have BZ : Blk x2 (g + 1) #[.bool false, .int .i64 0, .int .i64 0, .int .i64 0, .int .i64 0, .int .i64 0, .int .i64 0, .int .i64 0, .int .i64 0, .int .i64 0, .int .i64 0, .int .i64 0, .int .i64 0, .int .i64 0, .int .i64 0, .int .i64 0, .int .i64 0, .int .i64 0, .int .i64 0, .int .i64 0] 88 := by
    rw [← hx2]
    have := Blk.new (w.alloc (.cells (lC R).toArray 90)) 88 #[.bool false, .int .i64 0, .int .i64 0, .int .i64 0, .int .i64 0, .int .i64 0, .int .i64 0, .int .i64 0, .int .i64 0, .int .i64 0, .int .i64 0, .int .i64 0, .int .i64 0, .int .i64 0, .int .i64 0, .int .i64 0, .int .i64 0, .int .i64 0, .int .i64 0, .int .i64 0]
    rw [show (w.alloc (.cells (lC R).toArray 90)).heap.size = g + 1 by simp [hg]] at this
    exact this
  have hb : Below g w x2 := by rw [← hx2, ← hg]; exact ((Below.refl _ w).alloc (Nat.le_refl _) _).alloc (by simp) _
  have RG := hide (lC_range B k hk)
  have TH := hide (blk_there BZ (rV (R k)).toArray.size (by simp [rV_len]))
  have B4 := setCells_all BZ (rV (R k)) (by simp [rV_len])
  have HLD := hide (iload_blk 88 _ B4 Tryz.underlying88 rfl (by rw [sizeRec]; simp [rV_len]))
  have HB4 := hide (below_setCells (Nat.le_succ _) (rV (R k)) 0 hb)
  have HYL := hide (rV_len (R k))
  have HYO := hide (rV_one (R k))
  have h1 : (0 : Int) ≤ (k : Int) := by omega
  have h2 : (k : Int) < 8 := by omega
  have e1 : ((k + 1 : Nat) : Int) - 1 = (k : Int) := by omega
  generalize ((k + 1 : Nat) : Int) = kk at *
  generalize (lC R).toArray = xs at *
  generalize rV (R k) = ys at *
  clear B BZ hb B4 hk
  rw [hg]
  go_enter Tryz.func79, Tryz.ntmps79
  go_wp2_with (first | refine wpList_load_mid rfl 88 (.tmp 7) rfl g (k * 20) rfl _ _ (unhide RG) Tryz.underlying88 rfl (by rw [sizeRec, unhide HYL]) ?_ | refine wpList_store_mid rfl 88 (.tmp 4) (.tmp 8) rfl (g + 1) 0 ys.toArray rfl rfl (unhide TH) (by rw [sizeRec]; simp [unhide HYL]) (unhide HYO) ?_)
  refine bodyPost_ret (v := .agg ys.toArray) (results_cell rfl _ _ _ ⟨g + 1, 0, none⟩ rfl _ (unhide HLD)) rfl ⟨rfl, unhide HB4⟩
end Go.Proofs.YtpcmifmgkccfnaaGreatDoor

namespace Go.Proofs.YtpcmifmgkccfnaaGreatDoor
open Go.RowKit
theorem wpAnyH_takeD {P : Program} {ops : Array Oper} {Q : Exit → Act → World → Prop} {md : Region.Mode} {S : World → Prop} (i : Nat) (d : Option Tmp) (v : Value) {oi : Oper} {fuel : Nat} {listed : Array Bool} {a : Act} {w : World} (hi : ops[i]? = some oi) (hd : oi.dst = d)
    (hs : Region.noSelect ops = true) (hf : Region.free md ops listed i = true) (hr : (Region.ready md ops listed).contains i = true)
    (hQ : ∀ c a w, Q (.panic c) (a.put d v) w → Q (.panic c) a w) (hy : YieldsIf P ops S oi v a) (hS : S w)
    (h : wpAnyH P md ops Q S fuel (listed.setIfInBounds i true) (a.put d v) w) : wpAnyH P md ops Q S (fuel + 1) listed a w := by
  subst hd
  exact wpAnyH_take hi hs hf hr hQ hy hS h
end Go.Proofs.YtpcmifmgkccfnaaGreatDoor

namespace Go.Proofs.YtpcmifmgkccfnaaGreatDoor
open Go.RowKit
set_option maxRecDepth 100000
set_option maxRecDepth 100000 in
set_option maxHeartbeats 2000000 in
theorem quotas_any (R : Nat → Rc) (hR : ∀ k, k < 8 → ROk (R k)) (w : World) : Calls Tryz.prog 75 #[.agg (lC R).toArray] w fun e w' => e = .returned (.int .i64 (qs R 8 : Int)) ∧ Below w.heap.size w w' := by
  obtain ⟨g, hg⟩ : ∃ g, w.heap.size = g := ⟨_, rfl⟩
  have HIX := hide (index_rol R)
  have HQL := hide (qs_le hR)
  have HQS := hide (fun k => show qs R (k + 1) = qs R k + (R k).q from rfl)
  have HRQ := hide (fun k (h : k < 8) => (hR k h).q)
  obtain ⟨xs, hxs⟩ : ∃ q, lC R = q := ⟨_, rfl⟩
  have hxl : xs.length = 160 := by rw [← hxs]; rfl
  rw [hxs] at HIX ⊢
  clear hxs
  obtain ⟨x2, hx2⟩ : ∃ q, w.alloc (.cells xs.toArray 90) = q := ⟨_, rfl⟩
  have B : Blk x2 g xs.toArray 90 := by rw [← hx2, ← hg]; exact Blk.new w _ _
  have hb : Below g w x2 := by rw [← hx2, ← hg]; exact (Below.refl _ w).alloc (Nat.le_refl _) _
  have RG := hide (blk_range B)
  have HXL := hide hxl
  have X2 := hide (show Below g w x2 ∧ g < x2.heap.size from ⟨hb, B.lt⟩)
  clear B hb hxl hR
  rw [hg]
  go_enter Tryz.func75, Tryz.ntmps75
  go_wp2_with (refine wpList_load_mid rfl 90 (.tmp 1) rfl g 0 rfl _ _ (unhide RG) Tryz.underlying90 rfl (by rw [sizeRol, unhide HXL]) ?_)
  clear hx2 RG HXL
  go_loopw [3, 7] (fun m i wr => ∃ k : Nat, k ≤ 8 ∧ i = .int .i64 (k : Int) ∧ m = .int .i64 (qs R k : Int) ∧ Below g w wr ∧ g < wr.heap.size) (fun _ i _ => 8 - (intOf i).toNat)
  case atStart => exact ⟨0, by omega, rfl, rfl, (unhide X2).1, (unhide X2).2⟩
  case round =>
    obtain ⟨k, hk, rfl, rfl, hB, hgl⟩ := hrel
    by_cases hkn : k < 8
    · have hkn' : (k : Int) < 8 := by omega
      have hk0 : (0 : Int) ≤ (k : Int) := by omega
      have hix := unhide HIX k hkn
      have hm := unhide HQL k hk
      have hm1 := unhide HRQ k hkn
      have HS := hide (show ((qs R k : Int) + ((R k).q : Int)) = (qs R (k + 1) : Int) by rw [unhide HQS k]; omega)
      obtain ⟨h, hh⟩ : ∃ q, wr.heap.size = q := ⟨_, rfl⟩
      have hc1 : (rV (R k)).toArray[1]? = some (.int .i64 ((R k).q : Int)) := rfl
      have hyl := rV_len (R k)
      have HYO := hide (rV_one (R k))
      generalize rV (R k) = ys at *
      generalize (R k).q = q at *
      obtain ⟨y1, hy1⟩ : ∃ q, wr.alloc (.cells #[.bool false, .int .i64 0, .int .i64 0, .int .i64 0, .int .i64 0, .int .i64 0, .int .i64 0, .int .i64 0, .int .i64 0, .int .i64 0, .int .i64 0, .int .i64 0, .int .i64 0, .int .i64 0, .int .i64 0, .int .i64 0, .int .i64 0, .int .i64 0, .int .i64 0, .int .i64 0] 88) = q := ⟨_, rfl⟩
      have BZ : Blk y1 h #[.bool false, .int .i64 0, .int .i64 0, .int .i64 0, .int .i64 0, .int .i64 0, .int .i64 0, .int .i64 0, .int .i64 0, .int .i64 0, .int .i64 0, .int .i64 0, .int .i64 0, .int .i64 0, .int .i64 0, .int .i64 0, .int .i64 0, .int .i64 0, .int .i64 0, .int .i64 0] 88 := by rw [← hy1, ← hh]; exact Blk.new wr _ _
      have TH := hide (blk_there BZ ys.toArray.size (by simp [hyl]))
      have B4 := setCells_all BZ ys (by simp [hyl])
      have c1 : (y1.setCells h 0 ys).cell? ⟨h, 1, none⟩ = some (.int .i64 (q : Int)) := by rw [B4.cell]; exact hc1
      have HB4 := hide (show Below g w (y1.setCells h 0 ys) ∧ g < (y1.setCells h 0 ys).heap.size from ⟨below_setCells (by omega) ys 0 (by rw [← hy1]; exact hB.alloc (by omega) _), by have := B4.lt; omega⟩)
      have HYL := hide hyl
      clear BZ B4 hc1 hyl hB hgl
      have hw : IntKind.i64.wrap ((qs R k : Int) + (q : Int)) = ((qs R k : Int) + (q : Int)) := wrapI_eq _ (by omega) (by omega)
      generalize qs R k = m at *
      go_wp2_with (refine wpList_store_mid rfl 88 (.tmp 5) (.tmp 9) rfl h 0 ys.toArray rfl rfl (unhide TH) (by rw [sizeRec]; simp [unhide HYL]) (unhide HYO) ?_)
      go_roundw
      case rel => exact ⟨k + 1, by omega, by go_num, by rw [← unhide HS], (unhide HB4).1, (unhide HB4).2⟩
      case measure => simp [intOf]; omega
    · have hke : k = 8 := by omega
      have hkn' : ¬ (k : Int) < 8 := by omega
      have HR := hide (show qs R k = qs R 8 by rw [hke])
      clear hke HIX HQL HQS HRQ
      go_wp2
      go_ret
      exact ⟨by rw [unhide HR]; rfl, hB⟩
set_option maxRecDepth 100000 in
set_option maxHeartbeats 2000000 in
theorem left_any {w : World} {tb pb a cap : Nat} (h : Blk w tb (Tbv pb a cap) 85) (hcap : cap ≤ 1024) (R : Nat → Rc) (hR : ∀ k, k < 8 → ROk (R k)) : Calls Tryz.prog 33 #[.pointer (some ⟨tb, 0, none⟩), .agg (lC R).toArray] w fun e w' => e = .returned (.int .i64 ((cap : Int) - (qs R 8 : Int))) ∧ Below w.heap.size w w' := by
  obtain ⟨g, hg⟩ : ∃ g, w.heap.size = g := ⟨_, rfl⟩
  have HQ := hide (fun W => quotas_any R hR W)
  have hq8 := qs_le hR 8 (Nat.le_refl _)
  obtain ⟨xs, hxs⟩ : ∃ q, lC R = q := ⟨_, rfl⟩
  have hxl : xs.length = 160 := by rw [← hxs]; rfl
  rw [hxs] at HQ ⊢
  clear hxs
  generalize qs R 8 = q at *
  obtain ⟨x2, hx2⟩ : ∃ q, w.alloc (.cells xs.toArray 90) = q := ⟨_, rfl⟩
  have B : Blk x2 g xs.toArray 90 := by rw [← hx2, ← hg]; exact Blk.new w _ _
  have hb : Below g w x2 := by rw [← hx2, ← hg]; exact (Below.refl _ w).alloc (Nat.le_refl _) _
  have hT := h.below (by rw [hg]; exact hb) h.lt
  have HS0 := hide (show Blk x2 g xs.toArray 90 ∧ x2.cell? ⟨tb, 2, none⟩ = some (.int .i64 (cap : Int)) from ⟨B, by rw [hT.cell]; rfl⟩)
  have HSW := hide (show ∀ W, Below x2.heap.size x2 W → Blk W g xs.toArray 90 ∧ W.cell? ⟨tb, 2, none⟩ = some (.int .i64 (cap : Int)) from fun W hW => ⟨B.below hW B.lt, by rw [(hT.below hW hT.lt).cell]; rfl⟩)
  have HB2 := hide (And.intro hb B.lt)
  have HXL := hide hxl
  have hw : IntKind.i64.wrap ((cap : Int) - (q : Int)) = ((cap : Int) - (q : Int)) := wrapI_eq _ (by omega) (by omega)
  clear B hb hT hxl h hR
  rw [hg]
  go_enter Tryz.func33, Tryz.ntmps33
  go_wp2
  refine wp_region_held_drew (S := fun w' => Blk w' g xs.toArray 90 ∧ w'.cell? ⟨tb, 2, none⟩ = some (.int .i64 (cap : Int))) (by kernel_rfl) (unhide HS0) ?_
  intro hS
  refine wpAnyH_takeD 0 (some 5) (.pointer (some ⟨tb, 0, none⟩)) rfl rfl (by kernel_rfl) (by kernel_rfl) (by kernel_rfl) (fun _ _ _ h => h) (Or.inl ⟨by rfl, fun w hSw => by obtain ⟨-, q1⟩ := hSw; go_simp⟩) hS ?_
  simp only [Act.put, List.setIfInBounds_toArray, List.set_cons_zero, List.set_cons_succ]
  refine wpAnyH_takeD 1 (some 6) (.pointer (some ⟨tb, 0, none⟩)) rfl rfl (by kernel_rfl) (by kernel_rfl) (by kernel_rfl) (fun _ _ _ h => h) (Or.inl ⟨by rfl, fun w hSw => by obtain ⟨-, q1⟩ := hSw; go_simp⟩) hS ?_
  simp only [Act.put, List.setIfInBounds_toArray, List.set_cons_zero, List.set_cons_succ]
  refine wpAnyH_takeD 2 (some 7) (.pointer (some ⟨tb, 2, none⟩)) rfl rfl (by kernel_rfl) (by kernel_rfl) (by kernel_rfl) (fun _ _ _ h => h) (Or.inl ⟨by rfl, fun w hSw => by obtain ⟨-, q1⟩ := hSw; go_simp⟩) hS ?_
  simp only [Act.put, List.setIfInBounds_toArray, List.set_cons_zero, List.set_cons_succ]
  refine wpAnyH_takeD 3 (some 8) (.int .i64 (cap : Int)) rfl rfl (by kernel_rfl) (by kernel_rfl) (by kernel_rfl) (fun _ _ _ h => h) (Or.inl ⟨by rfl, fun w hSw => by obtain ⟨-, q1⟩ := hSw; go_simp⟩) hS ?_
  simp only [Act.put, List.setIfInBounds_toArray, List.set_cons_zero, List.set_cons_succ]
  refine wpAnyH_takeD 4 (some 9) (.agg xs.toArray) rfl rfl (by kernel_rfl) (by kernel_rfl) (by kernel_rfl) (fun _ _ _ h => h) (yieldsIf_load_mid (by rfl) 90 (.tmp 3) rfl g 0 rfl _ _ (fun w hSw => blk_range hSw.1) Tryz.underlying90 rfl (by rw [sizeRol, unhide HXL])) hS ?_
  simp only [Act.put, List.setIfInBounds_toArray, List.set_cons_zero, List.set_cons_succ]
  refine wpAnyH_ready (rs := [5]) (by kernel_rfl) (by simp) ?_
  refine AllReadyH.cons rfl (fun K hK => ?_) AllReadyH.nil
  simp only [List.getElem_toArray, List.getElem_cons_succ, List.getElem_cons_zero]
  go_simp
  refine (unhide HQ _).mono ?_
  rintro e x4 ⟨rfl, hb4⟩
  have HS4 := hide (unhide HSW x4 (((Below.refl _ x2).drew).trans hb4))
  have HB4 := hide (show Below g w x4 from (unhide HB2).1.trans ((((Below.refl _ x2).drew).trans hb4).mono (Nat.le_of_lt (unhide HB2).2)))
  clear hb4
  refine hK.out _ _ (unhide HS4) (fun hS => ?_)
  clear hK K
  refine wpAnyH_takeD 6 (some 11) (.int .i64 ((cap : Int) - (q : Int))) rfl rfl (by kernel_rfl) (by kernel_rfl) (by kernel_rfl) (fun _ _ _ h => h) (Or.inl ⟨by rfl, fun w hSw => by obtain ⟨-, q1⟩ := hSw; go_simp⟩) hS ?_
  simp only [Act.put, List.setIfInBounds_toArray, List.set_cons_zero, List.set_cons_succ]
  refine wpAnyH_takeD 7 (some 4) (.int .i64 ((cap : Int) - (q : Int))) rfl rfl (by kernel_rfl) (by kernel_rfl) (by kernel_rfl) (fun _ _ _ h => h) (Or.inl ⟨by rfl, fun w hSw => by obtain ⟨-, q1⟩ := hSw; go_simp⟩) hS ?_
  simp only [Act.put, List.setIfInBounds_toArray, List.set_cons_zero, List.set_cons_succ]
  refine wpAnyH_done (by kernel_rfl) ?_ _
  go_wp2
  go_ret
  exact ⟨rfl, unhide HB4⟩
end Go.Proofs.YtpcmifmgkccfnaaGreatDoor
