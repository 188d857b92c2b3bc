import Derived.Test.YtnfdedolgfcmfaaGreatDoorMrc24
import Derived.Maps.RangeWalk
import Derived.Test.YtnfdedolgfcmfaaGreatDoorMrc20
namespace Go.Proofs.YtnfdedolgfcmfaaGreatDoor
open Go.RowKit Go.Maps Go.Sort Go.Shelf
set_option maxRecDepth 100000
/-- what is left of what is kept -/
def fgt (a b : Nat) (l : Tx) : Tx := l.filter (fun e => !decide ((a : Int) < e.1 ∧ e.1 < (b : Int)))
theorem srt_ext {l l' : Tx} (h : Srt l) (h' : Srt l') (hm : ∀ e, e ∈ l ↔ e ∈ l') : l = l' := by
  refine List.Perm.eq_of_pairwise (le := fun x y : Int × Nat => x.1 < y.1) (fun x y _ _ h1 h2 => by omega) h h' ?_
  refine (List.perm_ext_iff_of_nodup (h.imp (fun q e => by subst e; omega)) (h'.imp (fun q e => by subst e; omega))).2 hm
theorem srt_fgt {l : Tx} (h : Srt l) (a b : Nat) : Srt (fgt a b l) := List.Pairwise.filter _ h
theorem mem_fgt {l : Tx} {a b : Nat} {e : Int × Nat} : e ∈ fgt a b l ↔ e ∈ l ∧ ¬ ((a : Int) < e.1 ∧ e.1 < (b : Int)) := by
  simp only [fgt, List.mem_filter, Bool.not_eq_true', decide_eq_false_iff_not]
/-- the loop of forget under way -/
def FgI (w : World) (p mp z N B : Nat) (l : Tx) (a b : Nat) (wr : World) (left : Lit → Bool) (cnt : Nat) (l1 : Tx) : Prop :=
  wr.ranges Tryz.prog 3 ptrElem mp w.heap.size l.length (txD l1) left cnt ∧ Srt l1 ∧ (∀ e, e ∈ l1 ↔ e ∈ l ∧ (¬ ((a : Int) < e.1 ∧ e.1 < (b : Int)) ∨ left (.int .i64 e.1) = true)) ∧ Only (fun q => q = mp) w wr ∧ Blk wr p #[.int .i64 (z : Int), .int .i64 (N : Int), .int .i64 (B : Int), .map (some mp)] 85
theorem FgI.step {w wr w1 : World} {p mp z N B : Nat} {l l1 : Tx} {a b : Nat} {left : Lit → Bool} {cnt cnt1 : Nat} {x : Int} (h : FgI w p mp z N B l a b wr left cnt l1) (hpl : p < w.heap.size)
    (hr : w1.ranges Tryz.prog 3 ptrElem mp w.heap.size l.length (txD l1) (fun y => left y && !y.sameKey (.int .i64 x)) cnt1) (hg : wr.grownBy w1 (some w.heap.size)) (hx : ¬ ((a : Int) < x ∧ x < (b : Int))) : FgI w p mp z N B l a b w1 (fun y => left y && !y.sameKey (.int .i64 x)) cnt1 l1 := by
  obtain ⟨h1, h2, h3, h4, h5⟩ := h
  have ho := h4.grown hg (fun k hk e => by cases e; omega)
  refine ⟨hr, h2, fun e => ?_, ho, ?_⟩
  · rw [h3 e]
    simp only [sameInt]
    by_cases q : e.1 = x
    · simp only [q, hx, not_false_iff, true_or]
    · have : (e.1 == x) = false := by simp [q]
      rw [this]
      simp
  · exact h5.only ((Only.refl (fun q => q = w.heap.size) wr).grown hg (fun k _ e => by cases e; rfl)) (fun e => by omega)
theorem FgI.drop {w wr w1 w2 : World} {p mp z N B : Nat} {l l1 : Tx} {a b : Nat} {left : Lit → Bool} {cnt cnt2 : Nat} {x : Int} (h : FgI w p mp z N B l a b wr left cnt l1) (hpm : p ≠ mp) (hpl : p < w.heap.size)
    (hg : wr.grownBy w1 (some w.heap.size)) (hr : w2.ranges Tryz.prog 3 ptrElem mp w.heap.size l.length ((txD l1).del (.int .i64 x)) (fun y => left y && !y.sameKey (.int .i64 x)) cnt2) (ht : w1.mapTurned w2 mp) (hx : (a : Int) < x ∧ x < (b : Int)) : FgI w p mp z N B l a b w2 (fun y => left y && !y.sameKey (.int .i64 x)) cnt2 (txDel x l1) := by
  obtain ⟨h1, h2, h3, h4, h5⟩ := h
  rw [txD_del] at hr
  have ho := (h4.grown hg (fun k hk e => by cases e; omega)).trans (Only.turned ht) (fun _ _ q => q)
  refine ⟨hr, srt_del h2 x, fun e => ?_, ho, ?_⟩
  · rw [mem_del, h3 e]
    simp only [sameInt]
    by_cases q : e.1 = x
    · subst q
      simp [hx]
    · have : (e.1 == x) = false := by simp [q]
      rw [this]
      simp [q]
  · exact (h5.only ((Only.refl (fun q => q = w.heap.size) wr).grown hg (fun k _ e => by cases e; rfl)) (fun e => by omega)).only (Only.turned ht) hpm
set_option maxHeartbeats 4000000 in
theorem pforget_any (w : World) (p mp z N B a b : Nat) (l : Tx) (im : Int → List ByteArray) (h : Pr w p mp z N B l im) (hk : ∀ e ∈ l, I64k e.1) :
    Calls Tryz.prog 36 #[.pointer (some ⟨p, 0, none⟩), .int .i64 (a : Int), .int .i64 (b : Int)] w fun e w' => e = .returned (.tuple #[]) ∧ Pr w' p mp z N B (fgt a b l) im ∧ Only (fun q => q = mp) w w' := by
  have hown := h.map.1
  have hpm := h.pm
  have hlt := h.map.lt
  have hpl := h.blk.lt
  have c3 : w.cell? ⟨p, 3, none⟩ = some (.map (some mp)) := by rw [h.blk.cell 3]; rfl
  have HST := hide (show ∀ x0, x0.ranges Tryz.prog 3 ptrElem mp w.heap.size l.length (txD l) (Maps.has (txD l)) (Maps.size (txD l)) → w.grownBy x0 none → FgI w p mp z N B l a b x0 (Maps.has (txD l)) (Maps.size (txD l)) l from fun x0 hr hg => by
    have ho : Only (fun q => q = mp) w x0 := (Only.refl _ _).grown hg (fun k _ e => by cases e)
    refine ⟨hr, h.map.2, fun e => ⟨fun he => ⟨he, .inr ?_⟩, fun he => he.1⟩, ho, h.blk.only ho hpm⟩
    rw [txD_has, (at_some h.map.2).2 he]
    rfl)
  have HEND := hide (show ∀ wr left cnt l1, FgI w p mp z N B l a b wr left cnt l1 → (∀ kl, left kl = false) → Pr wr p mp z N B (fgt a b l) im ∧ Only (fun q => q = mp) w wr from fun wr left cnt l1 hI hl0 => by
    obtain ⟨h1, h2, h3, h4, h5⟩ := hI
    have e1 : l1 = fgt a b l := srt_ext h2 (srt_fgt h.map.2 a b) (fun e => by rw [h3 e, mem_fgt, hl0]; simp)
    subst e1
    have hm : Mp wr mp (fgt a b l) := ⟨by have := ownsMap_tight h1.owns; rwa [txD_size] at this, h2⟩
    refine ⟨⟨h5, hm, fun e he => ?_, fun e he e' he' q => h.one e (mem_fgt.1 he).1 e' (mem_fgt.1 he').1 q⟩, h4⟩
    have hsd := h.sds e (mem_fgt.1 he).1
    exact hsd.only h4 (h.map.not_sd hsd) (fun kk cc q hb => h.map.not_blk hb q))
  have HK := hide hk
  have HG := hide (And.intro hlt (And.intro hpm hpl))
  clear h hk
  go_enter Tryz.func36, Tryz.ntmps36
  go_wp2_with (first
    | (at_range; refine wpList_range_own _ rfl _ 83 rfl 3 87 law3 Tryz.underlying83 _ mp l.length (txD l) rfl hown ?_; intro x0 hrg0 hg0 hs0)
    | go_in)
  go_frame
  have X0 := hide (unhide HST x0 hrg0 hg0)
  clear hrg0 hg0 hs0 hown c3 HST
  go_loopw [6] (fun _ wr => ∃ left cnt l1, Hid (FgI w p mp z N B l a b wr left cnt l1)) (fun _ wr => wr.rangeLeft mp w.heap.size)
  case atStart => exact ⟨_, _, _, X0⟩
  case round =>
    obtain ⟨left, cnt, l1, HI⟩ := hrel
    clear X0
    have hrg := (unhide HI).1
    go_wp2_with (first
      | (at_next; refine wpList_next_ranges _ rfl _ rfl 3 law3 ptrElem (fun x : Int => Value.int .i64 x) (fun v : Value => v) (fun key kl hkey => by obtain ⟨x, rfl, _⟩ := Maps.keyOf_int_inv Tryz.underlying3 hkey; exact ⟨x, rfl⟩) (fun v y hv => ⟨v, rfl⟩) mp w.heap.size l.length _ _ _ rfl hrg ?_ ?_)
      | go_in)
    · intro _ hl0
      have HF := hide (unhide HEND wr left cnt l1 (unhide HI) hl0)
      clear hrg hl0 HI HEND
      go_wp2
      go_end0
      exact ⟨rfl, (unhide HF).1, (unhide HF).2⟩
    · intro x c kl ya yb w1 cnt1 hkey hlk hv hat hrg1 hlt1 hgr1 hs1 hen
      obtain ⟨x', ex, rfl, hwx⟩ := Maps.keyOf_int_inv Tryz.underlying3 hkey
      cases ex
      clear HEND hlk hv hat
      have hle1 := hrg1.left_eq
      have hle0 := hrg.left_eq
      have c3 : w1.cell? ⟨p, 3, none⟩ = some (.map (some mp)) := by
        have := ((unhide HI).2.2.2.2.only ((Only.refl (fun q => q = w.heap.size) wr).grown hgr1 (fun k _ e => by cases e; rfl)) (fun e => by
          have := (unhide HG).2.2
          omega)).cell 3
        exact this.trans rfl
      by_cases hc : (a : Int) < x ∧ x < (b : Int)
      · obtain ⟨hc1, hc2⟩ := hc
        have HD := hide (show ∀ w2 cnt2, w2.ranges Tryz.prog 3 ptrElem mp w.heap.size l.length ((txD l1).del (.int .i64 x)) (fun y => left y && !y.sameKey (.int .i64 x)) cnt2 → w1.mapTurned w2 mp → FgI w p mp z N B l a b w2 (fun y => left y && !y.sameKey (.int .i64 x)) cnt2 (txDel x l1) from fun w2 cnt2 hr ht => (unhide HI).drop (unhide HG).2.1 (unhide HG).2.2 hgr1 hr ht ⟨hc1, hc2⟩)
        clear hrg hgr1 hs1 HI
        go_wp2_with (first
          | (at_delete; refine wpList_delete_ranges _ rfl _ _ 83 3 rfl 87 law3 Tryz.underlying83 ptrElem mp w.heap.size l.length _ _ _ rfl hrg1 _ _ rfl hkey ?_; intro w2 cnt2 hrg2 hle hturn; go_frame)
          | go_in)
        rw [Maps.strike_twice] at hrg2
        have hle2 := hrg2.left_eq
        have HN := hide (unhide HD w2 cnt2 hrg2 hturn)
        clear hrg1 hrg2 hturn HD
        go_roundw
        case rel => exact ⟨_, _, _, HN⟩
        case measure => rw [hle2, hle0]; omega
      · have HN := hide ((unhide HI).step (unhide HG).2.2 hrg1 hgr1 hc)
        clear hrg hgr1 hs1 HI hrg1 c3
        by_cases hc1 : (a : Int) < x
        · have hc2 : ¬ x < (b : Int) := fun q => hc ⟨hc1, q⟩
          go_wp2
          go_roundw
          case rel => exact ⟨_, _, _, HN⟩
          case measure => rw [hle1, hle0]; omega
        · go_wp2
          go_roundw
          case rel => exact ⟨_, _, _, HN⟩
          case measure => rw [hle1, hle0]; omega
end Go.Proofs.YtnfdedolgfcmfaaGreatDoor

namespace Go.Proofs.YtnfdedolgfcmfaaGreatDoor
open Go.RowKit
set_option maxRecDepth 100000
/-- an image that is kept, with the place of its list -/
def Sg (w : World) (b g : Nat) (l : List ByteArray) : Prop := ∃ (kn : ByteArray), Blk w b #[.slice (some ⟨g, 0, none⟩) l.length l.length, .string kn] 90 ∧ Blk w g (l.map Value.string).toArray 9 ∧ (kn = ⟨#[]⟩ ∨ kn = rt l)
theorem Sd.sg {w : World} {b : Nat} {l : List ByteArray} (h : Sd w b l) : ∃ g, Sg w b g l := h
theorem Sg.sd {w : World} {b g : Nat} {l : List ByteArray} (h : Sg w b g l) : Sd w b l := ⟨g, h⟩
theorem Sg.c0 {w : World} {b g : Nat} {l : List ByteArray} (h : Sg w b g l) : w.cell? ⟨b, 0, none⟩ = some (.slice (some ⟨g, 0, none⟩) l.length l.length) := by
  obtain ⟨kn, h1, _⟩ := h
  rw [h1.cell 0]
  rfl
theorem Sg.lst {w : World} {b g : Nat} {l : List ByteArray} (h : Sg w b g l) : Blk w g (l.map Value.string).toArray 9 := by
  obtain ⟨kn, _, h2, _⟩ := h
  exact h2
theorem Sg.lt {w : World} {b g : Nat} {l : List ByteArray} (h : Sg w b g l) : b < w.heap.size := by
  obtain ⟨kn, h1, _⟩ := h
  exact h1.lt
theorem Sg.below {w w' : World} {b g : Nat} {l : List ByteArray} (h : Sg w b g l) (hb : Below w.heap.size w w') : Sg w' b g l := by
  obtain ⟨kn, h1, h2, h3⟩ := h
  exact ⟨kn, h1.below hb h1.lt, h2.below hb h2.lt, h3⟩
theorem Sg.only {w w' : World} {b g : Nat} {l : List ByteArray} {P : Nat → Prop} (h : Sg w b g l) (ho : Only P w w') (hb : ¬ P b) (hP : ∀ k c, P k → ¬ Blk w k c 9) : Sg w' b g l := by
  obtain ⟨kn, h1, h2, h3⟩ := h
  exact ⟨kn, h1.only ho hb, h2.only ho (fun q => hP _ _ q h2), h3⟩
theorem Sg.nine {w : World} {b g : Nat} {l : List ByteArray} (h : Sg w b g l) : ∀ k c, k = b → ¬ Blk w k c 9 := fun k c e hk => by
  obtain ⟨kn, h1, _⟩ := h
  subst e
  exact h1.tyne hk (by decide) rfl
theorem Sg.ktab {w : World} {b g : Nat} {l : List ByteArray} (h : Sg w b g l) (hK : KTab w) : 2 ≠ b := by
  obtain ⟨kn, h1, _⟩ := h
  exact hK.ne h1 (by simp)
set_option maxHeartbeats 2000000 in
theorem yrootG_any (w : World) (b g : Nat) (l : List ByteArray) (h : Sg w b g l) (hK : KTab w) (hT : Sht l) (hm : l.length ≤ 65536) : Calls Tryz.prog 44 #[.pointer (some ⟨b, 0, none⟩)] w fun e w' => e = .returned (.string (rt l)) ∧ Sg w' b g l ∧ Only (fun k => k = b) w w' := by
  obtain ⟨kn, h1, h2, h3⟩ := h
  have hgb : g ≠ b := h2.tyne h1 (by decide)
  have hr : (rt l).size = 32 := rt_size l
  obtain ⟨R, hR⟩ : ∃ z, rt l = z := ⟨_, rfl⟩
  have c1 : w.cell? ⟨b, 1, none⟩ = some (.string kn) := by rw [h1.cell 1]; rfl
  have c0 : w.cell? ⟨b, 0, none⟩ = some (.slice (some ⟨g, 0, none⟩) l.length l.length) := by rw [h1.cell 0]; rfl
  have HC := hide (root_any l l.length rfl w w.heap.size l.length (some ⟨g, 0, none⟩) h2.sb (Nat.le_refl _) hK hT hm (Nat.le_refl _) (by omega))
  rw [hR] at hr h3 HC ⊢
  by_cases hk : kn = ⟨#[]⟩
  · subst hk
    have HX := hide (show ∀ y, Below w.heap.size w y → Sg (y.setCell ⟨b, 1, none⟩ (.string R)) b g l ∧ Only (fun k => k = b) w (y.setCell ⟨b, 1, none⟩ (.string R)) ∧ (y.setCell ⟨b, 1, none⟩ (.string R)).cell? ⟨b, 1, none⟩ = some (.string R) from fun y hy => by
      have q1 := (h1.below hy h1.lt).set 1 (.string R)
      have q2 := (h2.below hy h2.lt).other ⟨b, 1, none⟩ (.string R) (fun q => hgb q.symm)
      refine ⟨⟨R, q1, q2, .inr hR.symm⟩, ?_, ?_⟩
      · exact Only.setCell (Only.of_below hy) _ _ (fun _ => rfl)
      · rw [q1.cell 1]; rfl)
    have HF := hide (show ∀ y, Below w.heap.size w y → y.frozen? ⟨b, 1, none⟩ = false ∧ y.cell? ⟨b, 1, none⟩ = some (.string ⟨#[]⟩) from fun y hy => ⟨(h1.below hy h1.lt).frozen 1, by rw [(h1.below hy h1.lt).cell 1]; rfl⟩)
    clear h1 h2 h3 hr hR hK hT hm hgb
    go_enter Tryz.func44, Tryz.ntmps44
    go_wp2_with fail
    refine (unhide HC).mono ?_
    rintro e y ⟨rfl, hb⟩
    obtain ⟨hf, hc⟩ := unhide HF y hb
    have hX := unhide HX y hb
    obtain ⟨x, hx⟩ : ∃ z, y.setCell ⟨b, 1, none⟩ (.string R) = z := ⟨_, rfl⟩
    rw [hx] at hX
    have c9 := hX.2.2
    have HY := hide hX
    clear HC HF HX hX c0 c1 hb
    go_wp2
    go_ret
    exact ⟨rfl, (unhide HY).1, (unhide HY).2.1⟩
  · have hk2 : kn = R := h3.resolve_left hk
    subst hk2
    have hne : (kn.toList == []) = false := by
      have q := str_ne (s := kn) (t := ⟨#[]⟩) hk
      rwa [show (⟨#[]⟩ : ByteArray).toList = [] from by first | rfl | simp | decide] at q
    have HS := hide (show Sg w b g l from ⟨kn, h1, h2, .inr hR.symm⟩)
    clear h1 h2 h3 hr hR hK hT hm hgb HC c0
    go_enter Tryz.func44, Tryz.ntmps44
    go_wp2
    go_ret
    exact ⟨rfl, unhide HS, Only.refl _ _⟩
end Go.Proofs.YtnfdedolgfcmfaaGreatDoor

namespace Go.Proofs.YtnfdedolgfcmfaaGreatDoor
open Go.RowKit
set_option maxRecDepth 100000
/-- what is right of a primary -/
structure PW (z N B : Nat) (l : Tx) (im : Int → List ByteArray) : Prop where
  z1 : 128 ≤ z
  z2 : z ≤ 1024
  N2 : N ≤ 65535
  srt : Srt l
  key : ∀ e ∈ l, 1 ≤ e.1 ∧ e.1 ≤ (N : Int)
  top : ∃ g, ((N : Int), g) ∈ l
  bas : B ≠ 0 → (∃ g, ((B : Int), g) ∈ l) ∧ ∀ e ∈ l, (B : Int) ≤ e.1
  img : ∀ e ∈ l, (im e.1).length = z ∧ imB (im e.1) = true
  len : l.length ≤ 9
theorem PW.I64k {z N B : Nat} {l : Tx} {im : Int → List ByteArray} (h : PW z N B l im) : ∀ e ∈ l, I64k e.1 := fun e he => by
  have h1 := h.key e he
  have h2 := h.N2
  unfold Go.Proofs.YtnfdedolgfcmfaaGreatDoor.I64k
  omega
theorem PW.ne {z N B : Nat} {l : Tx} {im : Int → List ByteArray} (h : PW z N B l im) : l ≠ [] := fun e => by
  obtain ⟨g, hg⟩ := h.top
  rw [e] at hg
  cases hg
theorem PW.BN {z N B : Nat} {l : Tx} {im : Int → List ByteArray} (h : PW z N B l im) : B ≤ N := by
  by_cases e : B = 0
  · omega
  · obtain ⟨⟨g, hg⟩, _⟩ := h.bas e
    have := h.key _ hg
    simp only at this
    omega
theorem imB_sht {M : List ByteArray} (h : imB M = true) : Sht M := fun j hj => by
  unfold imB at h
  rw [decide_eq_true_iff] at h
  have := h.2.2 j hj
  omega
theorem imB_at {M : List ByteArray} (h : imB M = true) : ∀ j, j < M.length → (M.getD j ⟨#[]⟩).size = 256 := by
  unfold imB at h
  rw [decide_eq_true_iff] at h
  exact h.2.2
theorem imB_len {M : List ByteArray} (h : imB M = true) : 128 ≤ M.length ∧ M.length ≤ 1024 := by
  unfold imB at h
  rw [decide_eq_true_iff] at h
  exact ⟨h.1, h.2.1⟩
/-- at most two numbers -/
theorem srt_two {l : Tx} (h : Srt l) (a b : Int) (hm : ∀ e ∈ l, e.1 = a ∨ e.1 = b) : l.length ≤ 2 := by
  match l, h, hm with
  | [], _, _ => exact Nat.zero_le _
  | [x], _, _ => show 1 ≤ 2; omega
  | [x, y], _, _ => exact Nat.le_refl _
  | x :: y :: v :: r, h, hm =>
    exfalso
    obtain ⟨h1, h2⟩ := List.pairwise_cons.1 h
    obtain ⟨h3, _⟩ := List.pairwise_cons.1 h2
    have k1 := h1 y (by simp)
    have k2 := h1 v (by simp)
    have k3 := h3 v (by simp)
    have m1 := hm x (by simp)
    have m2 := hm y (by simp)
    have m3 := hm v (by simp)
    omega
/-- what is kept behind a note -/
def nwL (N B g : Nat) (l : Tx) : Tx := if 8 < (ntsP B (txPut ((N : Int) + 1) g l)).length then fgt B (N + 1) (txPut ((N : Int) + 1) g l) else txPut ((N : Int) + 1) g l
def nwI (N : Nat) (M : List ByteArray) (im : Int → List ByteArray) : Int → List ByteArray := fun k => if k = (N : Int) + 1 then M else im k
theorem mem_nw {N g : Nat} {l : Tx} (hk : ∀ e ∈ l, e.1 ≤ (N : Int)) (e : Int × Nat) : e ∈ txPut ((N : Int) + 1) g l ↔ e = ((N : Int) + 1, g) ∨ e ∈ l := by
  unfold txPut
  rw [mem_ins, mem_del]
  constructor
  · rintro (h | h)
    · exact .inl h
    · exact .inr h.1
  · rintro (h | h)
    · exact .inl h
    · exact .inr ⟨h, fun q => by have := hk e h; omega⟩
theorem nts_len {B : Nat} {l : Tx} : (ntsP B l).length = if B = 0 then l.length else l.length - 1 := by
  unfold ntsP
  split
  · exact List.length_map _
  · rw [List.length_drop]
    show (l.map _).length - 1 = _
    rw [List.length_map]
theorem PW.put {z N B : Nat} {l : Tx} {im : Int → List ByteArray} (h : PW z N B l im) (hN : N < 65535) (M : List ByteArray) (hM : M.length = z) (hI : imB M = true) (g : Nat) : Srt (txPut ((N : Int) + 1) g l) ∧ (∀ e ∈ txPut ((N : Int) + 1) g l, 1 ≤ e.1 ∧ e.1 ≤ ((N + 1 : Nat) : Int)) ∧ (∀ e ∈ txPut ((N : Int) + 1) g l, (nwI N M im e.1).length = z ∧ imB (nwI N M im e.1) = true) ∧ (txPut ((N : Int) + 1) g l).length = l.length + 1 := by
  have hk : ∀ e ∈ l, e.1 ≤ (N : Int) := fun e he => (h.key e he).2
  refine ⟨srt_put h.srt _ _, fun e he => ?_, fun e he => ?_, ?_⟩
  · rcases (mem_nw hk e).1 he with rfl | he
    · simp only; omega
    · have := h.key e he; omega
  · rcases (mem_nw hk e).1 he with rfl | he
    · unfold nwI; rw [if_pos rfl]; exact ⟨hM, hI⟩
    · unfold nwI
      rw [if_neg (by have := hk e he; omega)]
      exact h.img e he
  · rw [put_len h.srt, at_none.2 (fun e he q => by have := hk e he; omega)]
    rfl
theorem PW.note {z N B : Nat} {l : Tx} {im : Int → List ByteArray} (h : PW z N B l im) (hN : N < 65535) (M : List ByteArray) (hM : M.length = z) (hI : imB M = true) (g : Nat) : PW z (N + 1) B (nwL N B g l) (nwI N M im) := by
  have hk : ∀ e ∈ l, e.1 ≤ (N : Int) := fun e he => (h.key e he).2
  obtain ⟨p1, p2, p3, p4⟩ := h.put hN M hM hI g
  have hBN := h.BN
  have ht : ((((N + 1 : Nat)) : Int), g) ∈ txPut ((N : Int) + 1) g l := (mem_nw hk _).2 (.inl (by simp))
  have hb : B ≠ 0 → (∃ g', ((B : Int), g') ∈ txPut ((N : Int) + 1) g l) ∧ ∀ e ∈ txPut ((N : Int) + 1) g l, (B : Int) ≤ e.1 := fun q => by
    obtain ⟨⟨g', hg'⟩, h2⟩ := h.bas q
    refine ⟨⟨g', (mem_nw hk _).2 (.inr hg')⟩, fun e he => ?_⟩
    rcases (mem_nw hk e).1 he with rfl | he
    · simp only; omega
    · exact h2 e he
  unfold nwL
  split
  · refine ⟨h.z1, h.z2, by omega, srt_fgt p1 _ _, fun e he => p2 e (mem_fgt.1 he).1, ⟨g, mem_fgt.2 ⟨ht, fun q => by have := q.2; simp only at this; omega⟩⟩, fun q => ?_, fun e he => p3 e (mem_fgt.1 he).1, ?_⟩
    · obtain ⟨⟨g', hg'⟩, h2⟩ := hb q
      exact ⟨⟨g', mem_fgt.2 ⟨hg', fun q => by have := q.1; simp only at this; omega⟩⟩, fun e he => h2 e (mem_fgt.1 he).1⟩
    · have := srt_two (srt_fgt p1 B (N + 1)) (B : Int) ((N + 1 : Nat) : Int) (fun e he => by
        obtain ⟨q1, q2⟩ := mem_fgt.1 he
        have k1 := p2 e q1
        by_cases e0 : B = 0
        · subst e0; omega
        · have := (hb e0).2 e q1
          omega)
      omega
  · rename_i hle
    rw [nts_len, p4] at hle
    refine ⟨h.z1, h.z2, by omega, p1, p2, ⟨g, ht⟩, hb, p3, ?_⟩
    rw [p4]
    split at hle <;> omega
/-- behind a word that nothing is known of -/
theorem PW.lost {z N B : Nat} {l : Tx} {im : Int → List ByteArray} (h : PW z N B l im) : PW z N 0 (fgt 0 N l) im := by
  obtain ⟨g, hg⟩ := h.top
  refine ⟨h.z1, h.z2, h.N2, srt_fgt h.srt _ _, fun e he => h.key e (mem_fgt.1 he).1, ⟨g, mem_fgt.2 ⟨hg, fun q => by have := q.2; simp only at this; omega⟩⟩, fun q => absurd rfl q, fun e he => h.img e (mem_fgt.1 he).1, ?_⟩
  have := List.length_filter_le (fun e : Int × Nat => !decide (((0 : Nat) : Int) < e.1 ∧ e.1 < (N : Int))) l
  have h2 := h.len
  show (List.filter _ _).length ≤ 9
  omega
/-- behind the word of an image that is kept -/
theorem PW.known {z N B : Nat} {l : Tx} {im : Int → List ByteArray} (h : PW z N B l im) (n : Nat) (hn : ∃ g, ((n : Int), g) ∈ l) : PW z N n (fgt 0 n l) im := by
  obtain ⟨g, hg⟩ := h.top
  obtain ⟨gn, hgn⟩ := hn
  have hk := h.key _ hgn
  simp only at hk
  refine ⟨h.z1, h.z2, h.N2, srt_fgt h.srt _ _, fun e he => h.key e (mem_fgt.1 he).1, ⟨g, mem_fgt.2 ⟨hg, fun q => by have := q.2; simp only at this; omega⟩⟩, fun q => ⟨⟨gn, mem_fgt.2 ⟨hgn, fun q => by have := q.2; simp only at this; omega⟩⟩, fun e he => ?_⟩, fun e he => h.img e (mem_fgt.1 he).1, ?_⟩
  · obtain ⟨q1, q2⟩ := mem_fgt.1 he
    have := h.key e q1
    omega
  · have := List.length_filter_le (fun e : Int × Nat => !decide (((0 : Nat) : Int) < e.1 ∧ e.1 < (n : Int))) l
    have h2 := h.len
    show (List.filter _ _).length ≤ 9
    omega
/-- a frame that leads from an image, or from none, to a later one -/
noncomputable def fmT (z : Nat) (im : Int → List ByteArray) (a t : Nat) : ByteArray := if a = 0 then fmB 1 z t t (rt (im (t : Int))) (otU (List.replicate z (zR 256)) (im (t : Int)) z) else fmB 2 z a t (rt (im (t : Int))) (otU (im (a : Int)) (im (t : Int)) z)
/-- those of a row of notes -/
noncomputable def frms (z : Nat) (im : Int → List ByteArray) : Nat → List Int → List ByteArray
  | _, [] => []
  | a, t :: r => fmT z im a t.toNat :: frms z im t.toNat r
/-- where the frames behind the first j lead from -/
def fra (B : Nat) (ks : List Int) : Nat → Nat
  | 0 => B
  | j + 1 => (ks.getD j 0).toNat
theorem frms_take (z : Nat) (im : Int → List ByteArray) : ∀ (ks : List Int) (a j : Nat), j < ks.length → frms z im a (ks.take (j + 1)) = frms z im a (ks.take j) ++ [fmT z im (fra a ks j) (ks.getD j 0).toNat]
  | [], _, _, h => absurd h (by simp)
  | t :: r, a, 0, _ => rfl
  | t :: r, a, j + 1, h => by
    have := frms_take z im r t.toNat j (by simpa using h)
    rw [List.take_succ_cons, frms, this, List.take_succ_cons, frms, List.cons_append]
    congr 3
    cases j with
    | zero => rfl
    | succ j => rfl
/-- whole frames and changes are taken apart as they were made -/
theorem fmT_ok {z : Nat} {im : Int → List ByteArray} (hz : 128 ≤ z ∧ z ≤ 1024) (a t : Nat) (hat : a < t) (ht : t ≤ 65535) (hT : (im (t : Int)).length = z ∧ imB (im (t : Int)) = true) (hA : a ≠ 0 → (im (a : Int)).length = z) :
    frOk (fmT z im a t) ∧ frK (fmT z im a t) = (if a = 0 then 1 else 2) ∧ frZ (fmT z im a t) = z ∧ frF (fmT z im a t) = (if a = 0 then t else a) ∧ frT (fmT z im a t) = t ∧ frR (fmT z im a t) = rt (im (t : Int)) ∧ ∀ m, (a ≠ 0 → m = im (a : Int)) → tkM m (fmT z im a t) = im (t : Int) := by
  have hL := otU_len
  by_cases e : a = 0
  · subst e
    obtain ⟨M, hM⟩ : ∃ q, im (t : Int) = q := ⟨_, rfl⟩
    rw [hM] at hT ⊢
    have hfm : fmT z im 0 t = fmB 1 z t t (rt M) (otU (List.replicate z (zR 256)) M z) := by rw [fmT, if_pos rfl, hM]
    rw [hfm]
    have hg := otU_get (List.replicate z (zR 256)) M z
    have hmb : mbB 1 z (t : Int) (t : Int) (otU (List.replicate z (zR 256)) M z) = true := by
      unfold mbB leadB
      have h1 := (tlB_ot 1 z (List.replicate z (zR 256)) M (fun _ j => by
        by_cases q : j < z
        · left
          rw [List.getD_eq_getElem?_getD, List.getElem?_replicate, if_pos q]
          rfl
        · right; omega) z (by omega) (Nat.le_refl _)).1
      rw [decide_eq_true hz, decide_eq_true (by omega), Bool.true_and, Bool.true_and]
      exact h1
    obtain ⟨q1, q2, q3, q4, q5, q6, q7, q8⟩ := fmB_ok 1 z t t (rt M) (otU (List.replicate z (zR 256)) M z) (rt_size M) (by have := hL (List.replicate z (zR 256)) M z; omega) (fun j hj => by
      obtain ⟨i, h1, h2⟩ := hg j hj
      rw [h2]
      exact imB_at hT.2 i (by omega)) hmb
    refine ⟨q1, q2, q3, q4, q5, q6, fun m _ => ?_⟩
    unfold tkM
    rw [q2, q3, q7, q8, if_neg (by decide)]
    have := lyL_back (List.replicate z (zR 256)) M (by rw [List.length_replicate, hT.1])
    rwa [hT.1] at this
  · obtain ⟨M, hM⟩ : ∃ q, im (t : Int) = q := ⟨_, rfl⟩
    obtain ⟨A, hA9⟩ : ∃ q, im (a : Int) = q := ⟨_, rfl⟩
    have hAz := hA e
    have hfm : fmT z im a t = fmB 2 z a t (rt M) (otU A M z) := by rw [fmT, if_neg e, hM, hA9]
    rw [hM] at hT ⊢
    rw [hA9] at hAz ⊢
    rw [hfm, if_neg e, if_neg e]
    have hg := otU_get A M z
    have hmb : mbB 2 z (a : Int) (t : Int) (otU A M z) = true := by
      unfold mbB leadB
      have h1 := (tlB_ot 2 z A M (fun q => absurd q (by decide)) z (by omega) (Nat.le_refl _)).1
      rw [decide_eq_true hz, decide_eq_true (by omega), Bool.true_and, Bool.true_and]
      exact h1
    obtain ⟨q1, q2, q3, q4, q5, q6, q7, q8⟩ := fmB_ok 2 z a t (rt M) (otU A M z) (rt_size M) (by have := hL A M z; omega) (fun j hj => by
      obtain ⟨i, h1, h2⟩ := hg j hj
      rw [h2]
      exact imB_at hT.2 i (by omega)) hmb
    refine ⟨q1, q2, q3, q4, q5, q6, fun m hm => ?_⟩
    have hm' := hm e
    subst hm'
    unfold tkM
    rw [q2, q7, q8, if_pos rfl]
    have := lyL_back m M (by omega)
    rwa [hT.1] at this
end Go.Proofs.YtnfdedolgfcmfaaGreatDoor
