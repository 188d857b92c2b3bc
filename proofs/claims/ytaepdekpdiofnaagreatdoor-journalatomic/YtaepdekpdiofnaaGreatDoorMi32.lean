import Derived.Test.YtaepdekpdiofnaaGreatDoorMi31
import Derived.Test.YtaepdekpdiofnaaGreatDoorMi08
import Derived.BigQuiet
namespace Go.Proofs.YtaepdekpdiofnaaGreatDoor
open Go.RowKit
theorem next_any (w : World) (jb b nx : Nat) (lost : Bool) (hJ : Jb w jb b nx lost) (hnx : nx < 4294967296) : Calls Tryz.prog 14 #[.pointer (some ⟨jb, 0, none⟩)] w fun e w' => e = .returned (.int .i64 (nx : Int)) ∧ w' = w := by
  have c1 : w.cell? ⟨jb, 1, none⟩ = some (.int .u32 (nx : Int)) := by rw [Blk.cell hJ 1]; rfl
  have hw : IntKind.i64.wrap (nx : Int) = (nx : Int) := wrapI_eq _ (by omega) (by omega)
  clear hJ
  go_enter Tryz.func14, Tryz.ntmps14
  go_wp2
  go_ret
  exact ⟨rfl, rfl⟩
def LaI (w : World) (l : List ByteArray) (W : List Wr1) (k : Nat) (wr : World) : Prop := Blk wr w.heap.size (strs (layP l (natW (W.take k)))).toArray 9 ∧ Below w.heap.size w wr
theorem LaI.step {w wr : World} {l : List ByteArray} {W : List Wr1} {k j : Nat} {t : ByteArray} (h : LaI w l W k wr) (hk : k < W.length) (hj : (W.getD k wr0).1 = (j : Int)) (ht : (W.getD k wr0).2 = t) : LaI w l W (k + 1) (wr.drew.setCell ⟨w.heap.size, j, none⟩ (.string t)) := by
  refine ⟨?_, h.2.drew.setCell (Nat.le_refl _) _⟩
  have e1 : W.take (k + 1) = W.take k ++ [W.getD k wr0] := by
    rw [List.take_succ_eq_append_getElem hk]
    simp [List.getD_eq_getElem?_getD, hk]
  have e2 : natW [W.getD k wr0] = [(j, t)] := by
    show [((W.getD k wr0).1.toNat, (W.getD k wr0).2)] = _
    rw [hj, ht, Int.toNat_natCast]
  have := Blk.set (show Blk wr.drew w.heap.size _ 9 from h.1) j (.string t)
  have e : (strs (layP l (natW (W.take k)))).toArray.setIfInBounds j (.string t) = (strs (layP l (natW (W.take (k + 1))))).toArray := by
    rw [e1, natW_app, e2, layP_snoc, ← strs_set]
    simp
  rw [e] at this
  exact this
set_option maxRecDepth 100000 in
set_option maxHeartbeats 2000000 in
/-- An image with a list laid down. -/
theorem laid_any (w : World) (p : Option Addr) (c : Nat) (l : List ByteArray) (n : Nat) (hn : n = l.length) (hp : Strs w p l) (h0 : 0 < n) (h1 : n ≤ 1024) (q : Option Addr) (d : Nat) (W : List Wr1) (m : Nat) (hm : m = W.length) (hq : Wls w q W) (hW : ∀ x ∈ W, 0 ≤ x.1 ∧ x.1 < (n : Int)) (hm2 : m ≤ 1000000) :
    Calls Tryz.prog 25 #[.slice p n c, .slice q m d] w fun e w' => e = .returned (.slice (some ⟨w.heap.size, 0, none⟩) n n) ∧ Blk w' w.heap.size (strs (layP l (natW W))).toArray 9 ∧ Below w.heap.size w w' := by
  obtain ⟨g, o, rfl, hg, -⟩ := hp 0 (by omega)
  have HC := hide (show ∀ j, j < l.length → w.cell? ⟨g, o + j, none⟩ = some (.string (l.getD j ByteArray.empty)) from fun j hj => by
    obtain ⟨g', o', e, _, h⟩ := hp j hj
    simp at e
    obtain ⟨rfl, rfl⟩ := e
    exact h)
  have HN := hide hn
  have HM := hide hm
  have HQ := hide hq
  have HW := hide hW
  have hmk := run_make_s n (by omega) w
  obtain ⟨zc, hzc⟩ : ∃ zc, zc = (strs (List.replicate n ⟨#[]⟩)).toArray := ⟨_, rfl⟩
  rw [← hzc] at hmk
  have HZ := hide (show zc.size = n by rw [hzc]; simp [strs_len])
  have B0 := hide (Blk.new w 9 zc)
  have L0 := hide ((Below.refl w.heap.size w).alloc (Nat.le_refl _) (.cells zc 9))
  generalize w.alloc (.cells zc 9) = x0 at *
  have hgn : g < w.heap.size := hg
  clear hp hn hm hq hW hzc hg
  go_enter Tryz.func25, Tryz.ntmps25
  go_wp2_with (refine wpList_copy_into rfl (.tmp 10) (.tmp 11) 39 39 rfl 9 Tryz.underlying39 (by kernel_rfl) w.heap.size 0 n n ⟨g, o, none⟩ n c rfl rfl zc 9 (unhide B0) (strs l) (by rw [strs_len, ← unhide HN]; show n = min n n; omega) (fun j v hv => by
      have hj : j < l.length := by
        rcases Nat.lt_or_ge j l.length with q | q
        · exact q
        · rw [List.getElem?_eq_none (by rw [strs_len]; exact q)] at hv; cases hv
      rw [strs_at l j hj] at hv
      rw [Addr.add_mid, (unhide L0).cell (p := ⟨g, o + j, none⟩) hgn, unhide HC j hj]
      exact hv) (by rw [strs_len, ← unhide HN, unhide HZ]; omega) (by simp [strs, Value.oneCell']) ?_)
  intro w1 hB hO
  have X0 := hide (show LaI w l W 0 w1 from by
    refine ⟨?_, (unhide L0).trans (hO.below (unhide L0).size (fun k hk q => by omega))⟩
    have e : (strs l ++ zc.toList.drop (strs l).length).toArray = (strs l).toArray := by
      rw [List.drop_of_length_le (by rw [strs_len, ← unhide HN]; have := unhide HZ; simp; omega), List.append_nil]
    rw [e] at hB
    exact hB)
  clear hB hO B0 L0 hmk
  go_wp2
  go_loopw [6] (fun i wr => ∃ k : Nat, k ≤ m ∧ i = .int .i64 (k : Int) ∧ LaI w l W k wr) (fun i _ => m - (intOf i).toNat)
  case atStart => exact ⟨0, by omega, rfl, unhide X0⟩
  case round =>
    obtain ⟨k, hk, rfl, hI⟩ := hrel
    have XI := hide hI
    clear hI X0
    by_cases hkl : k < m
    · have hkW : k < W.length := by have := unhide HM; omega
      obtain ⟨g2, o2, rfl, hg2, q1, q2⟩ := unhide HQ k hkW
      have k1 := ((unhide XI).2.cell (p := ⟨g2, o2 + k * 2, none⟩) hg2).trans q1
      have k2 := ((unhide XI).2.cell (p := ⟨g2, o2 + k * 2 + 1, none⟩) hg2).trans q2
      obtain ⟨r1, r2⟩ := unhide HW (W.getD k wr0) (by simp [List.getD_eq_getElem?_getD, hkW])
      obtain ⟨j, hj⟩ : ∃ j : Nat, (W.getD k wr0).1 = (j : Int) := ⟨(W.getD k wr0).1.toNat, by omega⟩
      obtain ⟨t, ht⟩ : ∃ t, (W.getD k wr0).2 = t := ⟨_, rfl⟩
      have HS := hide ((unhide XI).step hkW hj ht)
      rw [hj] at k1 r1 r2
      rw [ht] at k2
      have hjn : j < (layP l (natW (W.take k))).length := by rw [layP_len]; have := unhide HN; omega
      have cj : wr.cell? ⟨w.heap.size, j, none⟩ = some (.string ((layP l (natW (W.take k))).getD j ByteArray.empty)) := by rw [(unhide XI).1.cell j]; simpa using strs_at _ _ hjn
      have fj := (unhide XI).1.frozen j
      generalize (layP l (natW (W.take k))).getD j ByteArray.empty = old at *
      clear q1 q2 hj ht hjn XI
      have i0 : 0 ≤ (k : Int) := by omega
      have i1 : (k : Int) < (m : Int) := by omega
      go_wp2_with fail
      go_still_tail 12, (by kernel_rfl)
      change wpList _ _ _ _ _ wr.drew
      go_wp2
      go_roundw
      case rel => exact ⟨k + 1, by omega, by go_num, unhide HS⟩
      case measure => simp [intOf]; omega
    · have hk' : k = W.length := by have := unhide HM; omega
      have XE := hide (show Blk wr w.heap.size (strs (layP l (natW W))).toArray 9 ∧ Below w.heap.size w wr from by
        have := unhide XI
        rw [LaI, hk', List.take_length] at this
        exact this)
      clear hk' XI
      go_wp2
      go_ret
      exact ⟨rfl, (unhide XE).1, (unhide XE).2⟩
def freeQ (l m : List ByteArray) : Prop := ∀ k, 19 ≤ k → k < l.length → l.getD k ByteArray.empty = m.getD k ByteArray.empty
def freeB (l m : List ByteArray) : Bool := (List.range l.length).all fun k => decide (k < 19) || decide (l.getD k ByteArray.empty = m.getD k ByteArray.empty)
theorem freeB_iff (l m : List ByteArray) : freeB l m = true ↔ freeQ l m := by
  unfold freeB freeQ
  rw [List.all_eq_true]
  constructor
  · intro h k h1 h2
    have := h k (List.mem_range.2 h2)
    rcases Bool.or_eq_true _ _ |>.mp this with q | q
    · exact absurd (of_decide_eq_true q) (by omega)
    · exact of_decide_eq_true q
  · intro h k hk
    have hk' := List.mem_range.1 hk
    by_cases q : k < 19
    · rw [decide_eq_true q, Bool.true_or]
    · rw [decide_eq_true (h k (by omega) hk'), Bool.or_true]
theorem freeB_true {l m : List ByteArray} (h : freeQ l m) : freeB l m = true := (freeB_iff l m).2 h
theorem freeB_false {l m : List ByteArray} (h : ¬ freeQ l m) : freeB l m = false := by
  cases q : freeB l m with
  | false => rfl
  | true => exact absurd ((freeB_iff l m).1 q) h
theorem str_neJ {a b : ByteArray} (h : ¬ a = b) : (a.toList == b.toList) = false := by
  by_cases q : a.toList == b.toList
  · exact absurd (by
      have := eq_of_beq q
      rw [ByteArray.toList_eq, ByteArray.toList_eq] at this
      exact WideShapes.bytes_inj this) h
  · simpa using q
def FrI (l m : List ByteArray) (k : Nat) : Prop := ∀ j, 19 ≤ j → j < k → l.getD j ByteArray.empty = m.getD j ByteArray.empty
set_option maxRecDepth 100000 in
set_option maxHeartbeats 2000000 in
/-- Do two images have the same free sectors? -/
theorem free_any (w : World) (p q : Option Addr) (c d : Nat) (l m : List ByteArray) (n : Nat) (hn : n = l.length) (hm : n = m.length) (hp : Strs w p l) (hq : Strs w q m) (hl : n ≤ 1000000) :
    Calls Tryz.prog 26 #[.slice p n c, .slice q n d] w fun e w' => e = .returned (.bool (freeB l m)) ∧ Below w.heap.size w w' := by
  have HP := hide hp
  have HQ := hide hq
  have HN := hide hn
  have HM := hide hm
  clear hp hq hn hm
  obtain ⟨B, hB⟩ : ∃ B, freeB l m = B := ⟨_, rfl⟩
  rw [hB]
  replace hB := hide hB
  go_enter Tryz.func26, Tryz.ntmps26
  go_wp2
  go_loopw [5] (fun i wr => ∃ k : Nat, 19 ≤ k ∧ k ≤ 1000019 ∧ i = .int .i64 (k : Int) ∧ Below w.heap.size w wr ∧ FrI l m k) (fun i _ => n - (intOf i).toNat)
  case atStart => exact ⟨19, by omega, by omega, rfl, Below.refl _ _, fun j h1 h2 => by omega⟩
  case round =>
    obtain ⟨k, hk1, hk2, rfl, hb, hF⟩ := hrel
    have XB := hide hb
    have XF := hide hF
    clear hb hF
    by_cases hkl : k < n
    · obtain ⟨g1, o1, rfl, hg1, hc1⟩ := unhide HP k (by have := unhide HN; omega)
      obtain ⟨g2, o2, rfl, hg2, hc2⟩ := unhide HQ k (by have := unhide HM; omega)
      have d1 := ((unhide XB).cell (p := ⟨g1, o1 + k, none⟩) hg1).trans hc1
      have d2 := ((unhide XB).cell (p := ⟨g2, o2 + k, none⟩) hg2).trans hc2
      clear hc1 hc2
      have i0 : 0 ≤ (k : Int) := by omega
      have i1 : (k : Int) < (n : Int) := by omega
      by_cases he : l.getD k ByteArray.empty = m.getD k ByteArray.empty
      · have HS := hide (show FrI l m (k + 1) from fun j h1 h2 => by
          by_cases h3 : j = k
          · rw [h3]; exact he
          · exact unhide XF j h1 (by omega))
        rw [← he] at d2
        generalize l.getD k ByteArray.empty = t at *
        clear he
        go_wp2_with fail
        go_quiet (fail)
        go_wp2
        go_roundw
        case rel => exact ⟨k + 1, by omega, by omega, by go_num, below_drewN (unhide XB) _, unhide HS⟩
        case measure => simp [intOf]; omega
      · have HE := hide (show B = false from by
          rw [← unhide hB]
          exact freeB_false (fun h => he (h k hk1 (by have := unhide HN; omega))))
        have hst := str_neJ he
        generalize l.getD k ByteArray.empty = t at *
        generalize m.getD k ByteArray.empty = u at *
        clear he
        go_wp2_with fail
        go_quiet (fail)
        go_wp2
        go_ret
        exact ⟨by rw [unhide HE]; rfl, below_drewN (unhide XB) _⟩
    · have HE := hide (show B = true from by
        rw [← unhide hB]
        exact freeB_true (fun j h1 h2 => unhide XF j h1 (by have := unhide HN; omega)))
      clear HP HQ
      go_wp2
      go_ret
      exact ⟨by rw [unhide HE]; rfl, unhide XB⟩
end Go.Proofs.YtaepdekpdiofnaaGreatDoor

namespace Go.Proofs.YtaepdekpdiofnaaGreatDoor
open Go.RowKit
/-- A disk and its journal, made behind w0, and a fence: blocks that belong to neither. -/
def JK (w0 w : World) (b jb : Nat) (s : DSt) (nx : Nat) (lost : Bool) (X : Nat → Prop) : Prop :=
  ∃ v, Dk w w0.heap.size b v s ∧ Jb w jb b nx lost ∧ ¬ Fd b v jb ∧ w0.heap.size ≤ jb ∧ Below w0.heap.size w0 w ∧ Sane s ∧ ∀ x, X x → ¬ Fd b v x ∧ x ≠ jb ∧ x < w.heap.size
theorem JK.ji {w0 w : World} {b jb : Nat} {s : DSt} {nx : Nat} {lost : Bool} {X : Nat → Prop} (h : JK w0 w b jb s nx lost X) : JI w0 w b jb s nx lost := by
  obtain ⟨v, h1, h2, h3, h4, h5, h6, _⟩ := h
  exact ⟨v, h1, h2, h3, h4, h5, h6⟩
theorem JI.jk {w0 w : World} {b jb : Nat} {s : DSt} {nx : Nat} {lost : Bool} (h : JI w0 w b jb s nx lost) : JK w0 w b jb s nx lost (fun _ => False) := by
  obtain ⟨v, h1, h2, h3, h4, h5, h6⟩ := h
  exact ⟨v, h1, h2, h3, h4, h5, h6, fun _ q => q.elim⟩
theorem JK.bel {w0 w : World} {b jb : Nat} {s : DSt} {nx : Nat} {lost : Bool} {X : Nat → Prop} (h : JK w0 w b jb s nx lost X) : Below w0.heap.size w0 w := h.ji.bel
theorem JK.jb {w0 w : World} {b jb : Nat} {s : DSt} {nx : Nat} {lost : Bool} {X : Nat → Prop} (h : JK w0 w b jb s nx lost X) : Jb w jb b nx lost := by
  obtain ⟨v, h1, h2, _⟩ := h
  exact h2
theorem JK.more {w0 w w' : World} {b jb : Nat} {s : DSt} {nx : Nat} {lost : Bool} {X : Nat → Prop} (h : JK w0 w b jb s nx lost X) (hb : Below w.heap.size w w') (Y : Nat → Prop) (hy : ∀ x, Y x → X x ∨ (w.heap.size ≤ x ∧ x < w'.heap.size)) : JK w0 w' b jb s nx lost Y := by
  obtain ⟨v, h1, h2, h3, h4, h5, h6, h7⟩ := h
  refine ⟨v, h1.below hb, Blk.below h2 hb (Blk.lt h2), h3, h4, h5.trans (hb.mono h5.size), h6, fun x hx => ?_⟩
  rcases hy x hx with q | ⟨q1, q2⟩
  · obtain ⟨a1, a2, a3⟩ := h7 x q
    exact ⟨a1, a2, Nat.lt_of_lt_of_le a3 hb.size⟩
  · refine ⟨fun q => ?_, fun q => ?_, q2⟩
    · have := (h1.fd x q).2; omega
    · have := Blk.lt h2; omega
theorem JK.below {w0 w w' : World} {b jb : Nat} {s : DSt} {nx : Nat} {lost : Bool} {X : Nat → Prop} (h : JK w0 w b jb s nx lost X) (hb : Below w.heap.size w w') : JK w0 w' b jb s nx lost X := h.more hb X (fun _ q => .inl q)
theorem JK.less {w0 w : World} {b jb : Nat} {s : DSt} {nx : Nat} {lost : Bool} {X : Nat → Prop} (h : JK w0 w b jb s nx lost X) (Y : Nat → Prop) (hy : ∀ x, Y x → X x) : JK w0 w b jb s nx lost Y := h.more (Below.refl _ _) Y (fun x q => .inl (hy x q))
theorem JK.lt {w0 w : World} {b jb : Nat} {s : DSt} {nx : Nat} {lost : Bool} {X : Nat → Prop} (h : JK w0 w b jb s nx lost X) (x : Nat) (hx : X x) : x < w.heap.size := by
  obtain ⟨v, h1, h2, h3, h4, h5, h6, h7⟩ := h
  exact (h7 x hx).2.2
theorem Strs.fence {w w' : World} {p : Option Addr} {l : List ByteArray} {X : Nat → Prop} (h : Strs w p l) (ho : Only (fun x => ¬ X x) w w') (hp : ∀ g o, p = some ⟨g, o, none⟩ → X g) : Strs w' p l := fun j hj => by
  obtain ⟨g, o, e, h1, h2⟩ := h j hj
  have q := ho.2 g h1 (fun r => r (hp g o e))
  exact ⟨g, o, e, Nat.lt_of_lt_of_le h1 ho.size, (World.cell?_of_block (a := ⟨g, o + j, none⟩) q).trans h2⟩
theorem Wls.fence {w w' : World} {p : Option Addr} {l : List Wr1} {X : Nat → Prop} (h : Wls w p l) (ho : Only (fun x => ¬ X x) w w') (hp : ∀ g o, p = some ⟨g, o, none⟩ → X g) : Wls w' p l := h.only ho (fun g o e r => r (hp g o e))
theorem Only.widen {P Q : Nat → Prop} {w w' : World} (h : Only P w w') (hq : ∀ k, k < w.heap.size → P k → Q k) : Only Q w w' := ⟨h.1, fun k hk hn => h.2 k hk (fun q => hn (hq k hk q))⟩
theorem commitK {w0 w : World} {b jb : Nat} {s : DSt} {nx : Nat} {lost : Bool} {X : Nat → Prop} (h : JK w0 w b jb s nx lost X) (hnx : nx < 4294967296) (p : Option Addr) (c : Nat) (l : List Wr1) (n : Nat) (hn : n = l.length) (hl : Wls w p l) (hp : s.pend.length ≤ 1000000) (ha : s.acts.length ≤ 100000000) :
    Calls Tryz.prog 12 #[.pointer (some ⟨jb, 0, none⟩), .slice p n c] w fun e w' => e = .returned (.int .i64 (commitR s nx lost l).e) ∧ JK w0 w' b jb (commitR s nx lost l).s (commitR s nx lost l).nx (commitR s nx lost l).lost X ∧ Only (fun x => ¬ X x) w w' := by
  obtain ⟨v, h1, h2, h3, h4, h5, h6, h7⟩ := h
  refine (commit_any w _ b jb nx v s lost h1 h2 h3 h5.size h6 hnx p c l n hn hl hp ha).mono ?_
  rintro ev w' ⟨rfl, v', k1, k2, k3, k4⟩
  refine ⟨rfl, ⟨v', k1, k2, fun q => ?_, h4, h5.trans (k3.below h5.size (fun k hk q => ?_)), commit_sane s nx lost l h6, fun x hx => ?_⟩, k3.widen (fun k hk q r => ?_)⟩
  · rcases k4 jb q with r | r
    · exact h3 r
    · have := Blk.lt h2; omega
  · rcases q with q | q
    · have := (h1.fd k q).1; omega
    · omega
  · obtain ⟨a1, a2, a3⟩ := h7 x hx
    refine ⟨fun q => ?_, a2, Nat.lt_of_lt_of_le a3 k3.size⟩
    rcases k4 x q with r | r
    · exact a1 r
    · omega
  · obtain ⟨a1, a2, a3⟩ := h7 k r
    rcases q with q | q
    · exact a1 q
    · exact a2 q
theorem Dk.lower {w : World} {base base0 b : Nat} {v : DV} {s : DSt} (g1 : Dk w base b v s) (h : base0 ≤ base) : Dk w base0 b v s :=
  ⟨g1.blk, owns_base g1.rl h, owns_base g1.rn h, owns_base g1.rp h, owns_base g1.ra h, g1.ne, Nat.le_trans h g1.lo⟩
/-- Open of a disk that was loaded, with a clear head. -/
theorem openK {w0 w : World} {base b : Nat} {v : DV} {L : List ByteArray} {X : Nat → Prop} (h : Dk w base b v (rs L [])) (h0 : w0.heap.size ≤ base) (hb : base ≤ w.heap.size) (hB : Below w0.heap.size w0 w) (hX : ∀ x, X x → x < base) (hg : ETy w) (hS : Sane (rs L [])) (n : Nat) (hn : n < 4294967296) (hL : 1 < L.length) (hh : L.getD 1 ByteArray.empty = headB n []) :
    Calls Tryz.prog 24 #[.pointer (some ⟨b, 0, none⟩)] w fun e w' => ∃ jb, e = .returned (.tuple #[.pointer (some ⟨jb, 0, none⟩), .bool false, .int .i64 0]) ∧ JK w0 w' b jb (rs L []) ((n + 1) % 4294967296) false X ∧ Only (fun x => ¬ X x) w w' := by
  refine (open_clear (h.lower h0) hg hB.size hS n hn hL hh (by simp)).mono ?_
  rintro e w' ⟨jb, rfl, v', k1, k2, k3, k4, k5, k6⟩
  have hf : ∀ x, X x → ¬ Fd b v x := fun x hx q => by have := (h.fd x q).1; have := hX x hx; omega
  refine ⟨jb, rfl, ⟨v', k1, k2, k3, Nat.le_trans hB.size k4, DI.only (h.lower h0) hB k5, hS, fun x hx => ⟨fun q => ?_, ?_, ?_⟩⟩, k5.widen (fun k _ q r => hf k r q)⟩
  · rcases k6 x q with r | r
    · exact hf x hx r
    · have := hX x hx; omega
  · have := hX x hx; omega
  · have := hX x hx
    have := k5.size
    omega
/-- Lists of lists of writes that were handed in. -/
def Wll (w : World) (p : Option Addr) (ls : List (List Wr1)) : Prop := ∀ i, i < ls.length → ∃ g o q c, p = some ⟨g, o, none⟩ ∧ g < w.heap.size ∧ w.cell? ⟨g, o + i, none⟩ = some (.slice q (ls.getD i []).length c) ∧ Wls w q (ls.getD i []) ∧ Wok (ls.getD i []) ∧ (ls.getD i []).length ≤ 9223372036854775807
theorem layP_size (ps : List (Nat × ByteArray)) : ∀ (l : List ByteArray), (∀ t ∈ l, t.size = 256) → (∀ p ∈ ps, p.2.size = 256) → ∀ t ∈ layP l ps, t.size = 256 := by
  induction ps with
  | nil => intro l h _; exact h
  | cons p r ih =>
    intro l h hp
    refine ih _ (fun t ht => ?_) (fun q hq => hp q (by simp [hq]))
    rcases List.mem_or_eq_of_mem_set ht with q | q
    · exact h t q
    · rw [q]; exact hp p (by simp)
theorem natW_size {N : Nat} {l : List Wr1} (h : OkW N l) : ∀ p ∈ natW l, p.2.size = 256 := fun p hp => by
  obtain ⟨x, hx, rfl⟩ := List.mem_map.1 hp
  exact (h x hx).2.2
theorem com_size (L : List ByteArray) (nx : Nat) (l : List Wr1) (hl : GoodL l) (h : ∀ t ∈ L, t.size = 256) : ∀ t ∈ comL L nx l, t.size = 256 := by
  have h1 : ∀ H : List Int, H.length ≤ 60 → ∀ p ∈ ([(1, headB nx H)] : List (Nat × ByteArray)), p.2.size = 256 := fun H hH p hp => by
    simp at hp; subst hp; exact headB_size nx H hH
  unfold comL
  refine layP_size _ _ (layP_size _ _ (layP_size _ _ (layP_size _ _ h (natW_size (rec_ok l hl))) (h1 _ (by rw [secs16 l hl]; decide))) (natW_size (fill_ok l hl))) (h1 _ (by simp))
theorem com_freeQ (L M : List ByteArray) (nx : Nat) (l : List Wr1) (hl : l.length ≤ 16) (hL : L.length = 128) (hM : M.length = 128) (h : freeQ L M) : freeQ (comL L nx l) (layP M (natW l)) := fun k h1 h2 => by
  rw [comL_len] at h2
  rw [com_free L nx l hl k h1]
  exact layP_congr _ _ _ k (by omega) (h k h1 h2)
end Go.Proofs.YtaepdekpdiofnaaGreatDoor
