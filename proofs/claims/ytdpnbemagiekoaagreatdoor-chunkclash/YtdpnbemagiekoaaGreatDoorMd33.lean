import Derived.Test.YtdpnbemagiekoaaGreatDoorMd32
import Derived.Test.YtdpnbemagiekoaaGreatDoorMd10
import Derived.Test.YtdpnbemagiekoaaGreatDoorMd11
import Derived.Test.YtdpnbemagiekoaaGreatDoorMd17
import Derived.Maps.RangeWalk
import Derived.Test.YtdpnbemagiekoaaGreatDoorMd19
namespace Go.Proofs.YtdpnbemagiekoaaGreatDoor
open Go.RowKit Go.Maps Go.Sort Go.Shelf
/-- The places at which something stands. -/
def lstE (T : Nat → En) (n : Nat) : List Nat := (List.range n).filter fun i => (T i).isSome
def lstI (T : Nat → En) (n : Nat) : List Int := (lstE T n).map fun i : Nat => (i : Int)
/-- What a loop over the map has collected. -/
structure Coll (D : DataW Unit) (T : Nat → En) (left : Lit → Bool) (l : List Int) : Prop where
  nd : l.Nodup
  mem : ∀ x, x ∈ l ↔ ∃ (i : Nat) (d : ByteArray) (c : Nat), T i = some (d, c) ∧ x = (i : Int) ∧ left (.string d.data.toList) = false
theorem coll_start {D : DataW Unit} {T : Nat → En} (h : PD D T) : Coll D T (has D) [] := by
  refine ⟨List.nodup_nil, fun x => ⟨fun q => (by cases q), fun ⟨i, d, c, hi, _, hl⟩ => ?_⟩⟩
  rw [(h.2 i d c hi).1] at hl
  cases hl
theorem coll_step {D : DataW Unit} {T : Nat → En} {n : Nat} {left : Lit → Bool} {l : List Int} (h : PD D T) (hT : TOk n T) (hc : Coll D T left l) {kl : Lit} {c : Int} (hl : left kl = true) (hat : ∀ zd, D.atKey kl zd = .lit (.int .i64 c)) :
    Coll D T (fun z => left z && !z.sameKey kl) (l ++ [c]) ∧ ∃ i : Nat, c = (i : Int) ∧ i < n := by
  have hh : has D kl = true := has_true_of_atKey hat
  obtain ⟨i, d, cc, hi, rfl⟩ := h.1 kl hh
  have hci : c = (i : Int) := by
    have := (hat .nil).symm.trans ((h.2 i d cc hi).2 .nil)
    simpa using this
  subst hci
  refine ⟨⟨?_, fun x => ?_⟩, i, rfl, hT.lt hi⟩
  · rw [List.nodup_append]
    refine ⟨hc.nd, by simp, fun a ha b hb e => ?_⟩
    simp at hb
    subst hb e
    obtain ⟨i', d', c', hi', e', hl'⟩ := (hc.mem _).1 ha
    have : i = i' := by omega
    subst this
    rw [hi] at hi'
    obtain ⟨rfl, rfl⟩ : d = d' ∧ cc = c' := by simpa using hi'
    rw [hl] at hl'
    cases hl'
  · constructor
    · intro hx
      rcases List.mem_append.1 hx with q | q
      · obtain ⟨i', d', c', hi', e', hl'⟩ := (hc.mem x).1 q
        exact ⟨i', d', c', hi', e', by simp [hl']⟩
      · simp at q
        exact ⟨i, d, cc, hi, q, by simp [WideAt.sameKey_self (keyLitS _)]⟩
    · rintro ⟨i', d', c', hi', e', hl'⟩
      by_cases e : i' = i
      · subst e
        exact List.mem_append.2 (.inr (by simp [e']))
      · refine List.mem_append.2 (.inl ((hc.mem x).2 ⟨i', d', c', hi', e', ?_⟩))
        have hne : (Lit.string d'.data.toList).sameKey (.string d.data.toList) = false := by
          cases hq : (Lit.string d'.data.toList).sameKey (.string d.data.toList) with
          | false => rfl
          | true =>
            have := data_inj (WideAt.sameKey_eq hq)
            subst this
            exact absurd (hT.one i' i d' c' cc hi' hi) e
        simpa [hne] using hl'
theorem coll_len {D : DataW Unit} {T : Nat → En} {n : Nat} {left : Lit → Bool} {l : List Int} (hT : TOk n T) (hc : Coll D T left l) : l.length ≤ n := by
  have := nodup_sub l ((List.range n).map fun i : Nat => (i : Int)) hc.nd (fun x hx => by
    obtain ⟨i, d, c, hi, e, _⟩ := (hc.mem x).1 hx
    exact List.mem_map.2 ⟨i, List.mem_range.2 (hT.lt hi), e.symm⟩)
  simpa using this
theorem lstI_mem (T : Nat → En) (n : Nat) (hT : TOk n T) (x : Int) : x ∈ lstI T n ↔ ∃ (i : Nat) (d : ByteArray) (c : Nat), T i = some (d, c) ∧ x = (i : Int) := by
  unfold lstI lstE
  constructor
  · intro h
    obtain ⟨i, hi, rfl⟩ := List.mem_map.1 h
    obtain ⟨_, q⟩ := List.mem_filter.1 hi
    obtain ⟨p, hp⟩ := Option.isSome_iff_exists.1 q
    exact ⟨i, p.1, p.2, hp, rfl⟩
  · rintro ⟨i, d, c, hi, rfl⟩
    exact List.mem_map.2 ⟨i, List.mem_filter.2 ⟨List.mem_range.2 (hT.lt hi), by rw [hi]; rfl⟩, rfl⟩
theorem lstI_sorted (T : Nat → En) (n : Nat) : (lstI T n).Pairwise (fun x y => x < y) := by
  unfold lstI lstE
  refine List.pairwise_map.2 ((List.pairwise_lt_range (n := n)).filter _ |>.imp (fun h => by omega))
theorem coll_end {D : DataW Unit} {T : Nat → En} {n : Nat} {left : Lit → Bool} {l : List Int} (hT : TOk n T) (hc : Coll D T left l) (hl : ∀ kl, left kl = false) : (l.mergeSort fun x y => decide (x ≤ y)) = lstI T n ∧ l.length = (lstI T n).length := by
  have hperm : l.Perm (lstI T n) := by
    refine (List.perm_ext_iff_of_nodup hc.nd ((lstI_sorted T n).imp (fun h => by omega))).2 (fun x => ?_)
    rw [hc.mem x, lstI_mem T n hT]
    exact ⟨fun ⟨i, d, c, h1, h2, _⟩ => ⟨i, d, c, h1, h2⟩, fun ⟨i, d, c, h1, h2⟩ => ⟨i, d, c, h1, h2, hl _⟩⟩
  refine ⟨?_, hperm.length_eq⟩
  refine List.Perm.eq_of_pairwise (le := fun x y : Int => x ≤ y) (fun a b _ _ h1 h2 => by omega) ?_ ((lstI_sorted T n).imp (fun h => by omega)) ((List.mergeSort_perm _ _).trans hperm)
  have := List.pairwise_mergeSort (le := fun x y : Int => decide (x ≤ y)) (fun a b c h1 h2 => by simp at h1 h2 ⊢; omega) (fun a b => by simp; omega) l
  exact this.imp (fun h => by simpa using h)
/-- A loop over the map under way. -/
def RisI (w : World) (bm r n : Nat) (D : DataW Unit) (T : Nat → En) (u : Value) (wr : World) : Prop :=
  ∃ left cnt l, wr.ranges Tryz.prog 99 (plainElem Tryz.prog 3) bm r n D left cnt ∧ Coll D T left l ∧ l.length ≤ n ∧ wr.ownsRow w.heap.size 3 1 u l.length (l.map (Value.int .i64)) ∧ (∀ k, u.ownBlock = some k → k ≠ r) ∧ Below w.heap.size w wr
theorem blk_range {w : World} {b r n cnt : Nat} {D : DataW Unit} {left : Lit → Bool} {g : Nat} {cur : Array Value} {U : TypeId} (h : w.ranges Tryz.prog 99 (plainElem Tryz.prog 3) b r n D left cnt) (hb : Blk w g cur U) : g ≠ b ∧ g ≠ r := by
  obtain ⟨es, clock, since, seen, c0, h1, _, _, _, h2, _⟩ := h
  constructor
  · intro e
    subst e
    have := (show w.heap[g]? = _ from hb).symm.trans h1
    simp at this
  · intro e
    subst e
    have := (show w.heap[g]? = _ from hb).symm.trans h2
    simp at this
theorem own_blk {w : World} {base n : Nat} {v : Value} {xs : List Value} {k : Nat} {e : TypeId} {s : Nat} (h : w.ownsRow base e s v n xs) (hk : v.ownBlock = some k) : ∃ cur, Blk w k cur e := by
  rcases h.2 with ⟨rfl, _⟩ | ⟨g, cap, cur, rfl, _, hh, _⟩
  · simp [Value.ownBlock] at hk
  · obtain rfl : g = k := by simpa [Value.ownBlock] using hk
    exact ⟨cur, hh⟩
theorem own_formE {w : World} {B : Nat} {e : TypeId} {k n : Nat} {v : Value} {xs : List Value} (h : w.ownsRow B e k v n xs) (hn : 0 < n) : ∃ g cap, v = .slice (some ⟨g, 0, none⟩) n cap := by
  rcases h.2 with ⟨h1, h2⟩ | ⟨g, cap, cur, h1, _⟩
  · omega
  · exact ⟨g, cap, h1⟩
theorem holds_own {w : World} {base g cap n : Nat} {l : List Int} (h : w.ownsRow base 3 1 (.slice (some ⟨g, 0, none⟩) n cap) l.length (l.map (Value.int .i64))) : Go.Sort.Holds (Value.int .i64) w g 0 l.toArray := by
  intro j hj
  have hj' : j < l.length := by simpa using hj
  rcases h.2 with ⟨h1, _⟩ | ⟨g', cap', cur, h1, _, hh, hn, _, hs, hx⟩
  · cases h1
  · obtain ⟨rfl, rfl, rfl⟩ : g = g' ∧ n = l.length ∧ cap = cap' := by simpa using h1
    rw [Nat.mul_one] at hs hx
    rw [Nat.zero_add, cell_of_row w g j cur 3 (0, 0) hh]
    refine ⟨?_, by simp [World.frozen?, hh]⟩
    have e : cur.toList[j]? = (l.map (Value.int .i64))[j]? := by rw [← hx, List.getElem?_take, if_pos hj']
    rw [← Array.getElem?_toList, e]
    simp [hj']
set_option maxRecDepth 100000 in
set_option maxHeartbeats 2000000 in
theorem rising_any {w : World} {mb mo eb bm n : Nat} {T : Nat → En} (h : MM w mb mo eb bm n T) (hT : TOk n T) (hn : n ≤ 1024) :
    Calls Tryz.prog 133 #[.pointer (some ⟨mb, mo, none⟩)] w fun e w' => ∃ p cap, e = .returned (.slice p (lstI T n).length cap) ∧ Ints w' p (lstI T n) ∧ Below w.heap.size w w' := by
  obtain ⟨i0, hi, hz0, hz1, hz2⟩ := info_parts infoI3
  have HI := hide (And.intro hi (And.intro hz0 (And.intro hz1 hz2)))
  clear hi hz0 hz1 hz2
  obtain ⟨D, hown, hPD⟩ := h.pm
  have c1 := h.c1
  have HQ := hide (And.intro hT (And.intro hPD hn))
  clear h hT hPD
  go_enter Tryz.func133, Tryz.ntmps133
  go_wp2_with (first
    | (at_range; refine wpList_range_own _ rfl _ 92 rfl 99 3 lawKey Tryz.underlying92 _ bm n D rfl hown ?_; intro x0 hrg0 hg0 hs0)
    | go_in)
  go_frame
  have X0 := hide (show RisI w bm w.heap.size n D T (.slice none 0 0) x0 from ⟨_, _, [], hrg0, coll_start (unhide HQ).2.1, Nat.zero_le _, World.ownsRow_nil _ _ _ _, fun k q => (by cases q), (Below.refl _ w).grown hg0 (Nat.le_refl _) (fun k q => (by cases q))⟩)
  clear hrg0 hg0 hs0 hown c1
  go_loopw [3] (fun u wr => RisI w bm w.heap.size n D T u wr) (fun _ wr => wr.rangeLeft bm w.heap.size)
  case atStart => exact unhide X0
  case round =>
    obtain ⟨left, cnt, l, hrg, hco, hln, hrow, hnr, hbel⟩ := hrel
    clear X0
    go_wp2_with (first
      | (at_next; refine wpList_next_ranges _ rfl _ rfl 99 lawKey (plainElem Tryz.prog 3) (fun v : Value => v) (Value.int .i64) (fun key kl _ => ⟨key, rfl⟩) (fun v y hv => by obtain ⟨c, rfl, _⟩ := plainElem_int_inv Tryz.underlying3 hv; exact ⟨c, rfl⟩) bm w.heap.size n _ _ _ rfl hrg ?_ ?_)
      | go_in)
    · intro _ hl0
      obtain ⟨hms, hlen⟩ := coll_end (unhide HQ).1 hco hl0
      obtain ⟨pv, cv, rfl, hcv⟩ := row_form hrow
      cases l with
      | nil =>
        have HE := hide (show lstI T n = [] from List.length_eq_zero_iff.1 hlen.symm)
        have HSN := hide (Tryz.slices_Sort_int_none pv cv wr)
        have HB := hide hbel
        clear hrg hco hln hrow hnr hbel hms hlen hl0 hcv
        simp only [List.length_nil]
        go_wp2_with (go_at_call 182; refine (unhide HSN).mono ?_; rintro e w' ⟨rfl, hw'⟩; subst w')
        go_ret
        rw [unhide HE]
        exact ⟨pv, cv, rfl, fun j hj => absurd hj (Nat.not_lt_zero j), unhide HB⟩
      | cons a0 lr =>
        obtain ⟨L1, hL1⟩ : ∃ q, a0 :: lr = q := ⟨_, rfl⟩
        rw [hL1] at hms hlen hrow hln ⊢
        have hpos : 0 < L1.length := by rw [← hL1]; simp
        obtain ⟨g, cap, hge⟩ := own_formE hrow hpos
        obtain ⟨rfl, rfl⟩ : pv = some ⟨g, 0, none⟩ ∧ cv = cap := by simpa using hge
        obtain ⟨cur, hgb⟩ := own_blk hrow (k := g) rfl
        have hH := holds_own hrow
        have hgl : g < wr.heap.size := hgb.lt
        have hgw : w.heap.size ≤ g := (hrow.lt g rfl).1
        have hcS := Tryz.slices_Sort_int g 0 cv L1 wr hH hgl (by omega)
        rw [hms] at hcS
        have HCS := hide hcS
        have HQ2 := hide (And.intro hH (And.intro hgl (And.intro hgw (And.intro hbel (And.intro hlen hms)))))
        obtain ⟨ll, hll⟩ : ∃ q, L1.length = q := ⟨_, rfl⟩
        rw [hll] at HCS hpos ⊢
        have HLL := hide hll
        clear hrg hco hln hrow hnr hbel hms hlen hl0 hcv hge hgb hH hgl hgw hcS hL1 hll
        go_wp2_with fail
        refine (unhide HCS).mono ?_
        rintro e x3 ⟨rfl, k3, os3, hx3⟩
        obtain ⟨hH, hgl, hgw, hbel, hlen, hms⟩ := unhide HQ2
        have hsz : (Go.Sort.putRow (Value.int .i64) (Go.Sort.ahead wr k3) g 0 (lstI T n).toArray).heap.size = wr.heap.size := by simp [Go.Sort.putRow, Go.Sort.mapBlock, Go.Sort.ahead]
        have hH3 : Go.Sort.Holds (Value.int .i64) x3 g 0 (lstI T n).toArray := by
          rw [hx3]
          refine Go.Sort.holds_grow _ _ _ _ _ _ ?_ (Go.Sort.holds_putRow _ _ _ _ L1.toArray _ hH (by simp [hlen]))
          rw [hsz]
          exact hgl
        have hb3 : Below w.heap.size w x3 := by
          rw [hx3]
          refine below_growJ (Go.Lib.below_putRow hbel hgw) ?_ _
          rw [hsz]
          exact hbel.size
        have hl9 := unhide HLL
        have hgl3 : g < x3.heap.size := World.block_lt_of_cell? x3 _ (hH3 0 (by rw [List.size_toArray]; omega)).1
        clear hl9
        have HF := hide (And.intro hH3 (And.intro hb3 (And.intro hgl3 hlen)))
        clear hx3 hsz hH3 hb3 hgl3 hH hgl hgw hbel hlen hms HCS HQ2
        go_wp2
        go_ret
        obtain ⟨hH3, hb3, hgl3, hlen⟩ := unhide HF
        refine ⟨some ⟨g, 0, none⟩, cv, by rw [← hlen, unhide HLL]; rfl, fun j hj => ⟨g, 0, rfl, hgl3, ?_⟩, hb3⟩
        rw [(hH3 j (by simpa using hj)).1]
        simp [hj]
    · intro x c kl ya yb w1 cnt1 hkx hlx hy hat hrg1 hlt hg1 hs1 hen
      have hya : ya = .lit (.int .i64 c) := by
        obtain ⟨c', e1, e2, _⟩ := plainElem_int_inv Tryz.underlying3 hy
        obtain rfl : c = c' := by simpa using e1
        exact congrArg Prod.fst e2
      subst hya
      obtain ⟨hco2, ic, hic, hicn⟩ := coll_step (unhide HQ).2.1 (unhide HQ).1 hco hlx hat
      have hrow1 : w1.ownsRow w.heap.size 3 1 u3 l.length (l.map (Value.int .i64)) := hrow.kept hg1 (.inr (fun e => hnr _ e rfl))
      have hb1 : Below w.heap.size w w1 := hbel.grown hg1 hbel.size (fun k q => by cases q; exact Nat.le_refl _)
      have hl2 : l.length + 1 ≤ n := by
        have := coll_len (unhide HQ).1 hco2
        rwa [List.length_append] at this
      have hRA : (w1.alloc (.cells #[.int .i64 c] 3)).ownsRow w.heap.size 3 1 u3 l.length (l.map (Value.int .i64)) := hrow1.alloc _
      have HRA := hide hRA
      have HR1 := hide (hrg1.alloc (.cells #[.int .i64 c] 3))
      have HXB := hide (show Below w.heap.size w (w1.alloc (.cells #[.int .i64 c] 3)) from hb1.alloc hb1.size _)
      have HCO := hide (And.intro hco2 (And.intro hl2 (And.intro hnr (And.intro hlt hrg))))
      obtain ⟨pv, cv, rfl, hcv⟩ := row_form hrow
      obtain ⟨m, hm⟩ : ∃ q, l.length = q := ⟨_, rfl⟩
      rw [hm] at HRA ⊢
      have hmn : m ≤ 1024 := by omega
      have HM := hide hm
      clear hs1 hrg hco hln hrow hnr hbel hkx hlx hy hat hrg1 hlt hg1 hco2 hic hicn hrow1 hb1 hl2 hRA hm hcv
      go_wp2_with (refine wpList_append_own _ rfl (.tmp 15) (.tmp 17) 53 rfl w.heap.size 3 i0 (.int .i64 0) 1 8 Tryz.underlying53 (unhide HI).1 (unhide HI).2.1 (unhide HI).2.2.1 (unhide HI).2.2.2 rfl (by decide) _ m (l.map (Value.int .i64)) rfl (unhide HRA) ⟨w1.heap.size, 0, none⟩ 1 1 [.int .i64 c] rfl rfl (fun q u hu => news_one w1 3 _ q u hu) (by simp [Value.oneCell']) (by unfold maxLen; omega) (by omega) (unhide HXB).size ?_)
      intro v5 x5 ho5 hg5 _
      obtain ⟨hco2, hl2, hnr, hlt, hrg⟩ := unhide HCO
      have hx5 : x5.ranges Tryz.prog 99 (plainElem Tryz.prog 3) bm w.heap.size n D (fun z => left z && !z.sameKey kl) cnt1 := by
        refine (unhide HR1).kept hg5 (fun e => ?_) (fun e => hnr _ (by rw [unhide HM]; exact e.symm) rfl)
        obtain ⟨cur, hb⟩ := own_blk (unhide HRA) e.symm
        exact (blk_range (unhide HR1) hb).1 rfl
      have hb5 : Below w.heap.size w x5 := (unhide HXB).grown hg5 (unhide HXB).size (fun q hq => ((unhide HRA).lt q hq).1)
      have ho6 : x5.ownsRow w.heap.size 3 1 v5 (l ++ [c]).length ((l ++ [c]).map (Value.int .i64)) := by
        rw [List.length_append, List.map_append, unhide HM]
        exact ho5
      have HNEW := hide (show RisI w bm w.heap.size n D T v5 x5 from ⟨_, cnt1, l ++ [c], hx5, hco2, by rw [List.length_append]; exact hl2, ho6, fun k hk => by
        obtain ⟨cur, hb⟩ := own_blk ho6 hk
        exact (blk_range hx5 hb).2, hb5⟩)
      have HMS := hide (show x5.rangeLeft bm w.heap.size < wr.rangeLeft bm w.heap.size from by rw [hx5.left_eq, hrg.left_eq]; exact hlt)
      clear hco2 hl2 hnr hlt hrg hx5 hb5 ho6 ho5 hg5 HRA HR1 HXB HCO hen
      go_wp2
      go_roundw
      case rel => exact unhide HNEW
      case measure => exact unhide HMS
end Go.Proofs.YtdpnbemagiekoaaGreatDoor

namespace Go.Proofs.YtdpnbemagiekoaaGreatDoor
open Go.RowKit Go.Maps Go.Sort Go.Shelf
/-- The cells of the slots at these places. -/
def eaC (T : Nat → En) (l : List Nat) : List Value := l.flatMap fun i => slC i (T i)
theorem eaC_app (T : Nat → En) (l m : List Nat) : eaC T (l ++ m) = eaC T l ++ eaC T m := by simp [eaC]
theorem eaC_at (T : Nat → En) : ∀ (l : List Nat) (k j : Nat), k < l.length → j < 3 → (eaC T l)[k * 3 + j]? = (slC (l.getD k 0) (T (l.getD k 0)))[j]?
  | [], k, j, hk, _ => absurd hk (Nat.not_lt_zero k)
  | i :: r, 0, j, _, hj => by
    show (slC i (T i) ++ eaC T r)[0 * 3 + j]? = _
    rw [List.getElem?_append_left (by rw [slC_len]; omega), Nat.zero_mul, Nat.zero_add]
    rfl
  | i :: r, k + 1, j, hk, hj => by
    show (slC i (T i) ++ eaC T r)[(k + 1) * 3 + j]? = _
    rw [List.getElem?_append_right (by rw [slC_len]; omega), slC_len, show (k + 1) * 3 + j - 3 = k * 3 + j by omega]
    exact eaC_at T r k j (by simpa using hk) hj
/-- A row of slots as it lies there. -/
def Sls (w : World) (p : Option Addr) (T : Nat → En) (l : List Nat) : Prop := ∀ k, k < l.length → ∃ g o, p = some ⟨g, o, none⟩ ∧ g < w.heap.size ∧ ∀ j, j < 3 → w.cell? ⟨g, o + k * 3 + j, none⟩ = (slC (l.getD k 0) (T (l.getD k 0)))[j]?
/-- The same, of a row that is new. -/
def SlsB (B : Nat) (w : World) (p : Option Addr) (T : Nat → En) (l : List Nat) : Prop := ∀ k, k < l.length → ∃ g o, p = some ⟨g, o, none⟩ ∧ B ≤ g ∧ g < w.heap.size ∧ ∀ j, j < 3 → w.cell? ⟨g, o + k * 3 + j, none⟩ = (slC (l.getD k 0) (T (l.getD k 0)))[j]?
theorem sls_ownB {w : World} {base B : Nat} {p : Option Addr} {m c : Nat} {T : Nat → En} {l : List Nat} (h : w.ownsRow base 40 3 (.slice p m c) l.length (eaC T l)) (hB : B ≤ base) : SlsB B w p T l := fun k hk => by
  rcases h.2 with ⟨_, h2⟩ | ⟨g, cap, cur, h1, hb, hh, hn, _, hs, hx⟩
  · omega
  · obtain ⟨rfl, rfl, rfl⟩ : p = some ⟨g, 0, none⟩ ∧ m = l.length ∧ c = cap := by simpa using h1
    refine ⟨g, 0, rfl, Nat.le_trans hB hb, (Array.getElem?_eq_some_iff.1 hh).1, fun j hj => ?_⟩
    rw [cell_of_row w g (0 + k * 3 + j) cur 40 (0, 0) hh, Nat.zero_add, ← eaC_at T l k j hk hj, ← hx, ← Array.getElem?_toList, List.getElem?_take, if_pos (by omega)]
theorem lstE_at (T : Nat → En) (n k : Nat) (hk : k < (lstE T n).length) : (lstI T n).getD k 0 = (((lstE T n).getD k 0 : Nat) : Int) ∧ ((lstE T n).getD k 0) < n ∧ (∃ d c, T ((lstE T n).getD k 0) = some (d, c)) ∧ (lstE T n).take (k + 1) = (lstE T n).take k ++ [(lstE T n).getD k 0] := by
  have hm : (lstE T n).getD k 0 ∈ lstE T n := by
    rw [List.getD_eq_getElem?_getD, List.getElem?_eq_getElem hk]
    exact List.getElem_mem hk
  obtain ⟨h1, h2⟩ := List.mem_filter.1 hm
  obtain ⟨p, hp⟩ := Option.isSome_iff_exists.1 h2
  refine ⟨by simp [lstI, hk], List.mem_range.1 h1, ⟨p.1, p.2, hp⟩, ?_⟩
  rw [List.take_add_one, List.getElem?_eq_getElem hk]
  simp [hk]
theorem news_three (w : World) (T : TypeId) (x y z : Value) (j : Nat) (u : Value) (hu : [x, y, z][j]? = some u) : (w.alloc (.cells #[x, y, z] T)).cell? (Addr.add ⟨w.heap.size, 0, none⟩ j) = some u := by
  rw [Addr.add_mid, Nat.zero_add, (Blk.new w T #[x, y, z]).cell j]
  simpa using hu
theorem infoSlot3 : (Tryz.prog.info? 40).map (fun i => (i.zero, i.size, i.bytes)) = some (some (.agg #[.int .i64 0, .string ⟨#[]⟩, .int .i64 0]), 3, 32) := by kernel_rfl
/-- A list of slots under way. -/
def EaI (w : World) (T : Nat → En) (l : List Nat) (u : Value) (k : Nat) (wr : World) : Prop := wr.ownsRow w.heap.size 40 3 u k (eaC T (l.take k)) ∧ Below w.heap.size w wr
set_option maxRecDepth 100000 in
set_option maxHeartbeats 2000000 in
theorem ieachB_any {w0 w : World} {xb pb a eb bm n : Nat} {T : Nat → En} (h : IM w0 w xb pb a eb bm n T) (hT : TOk n T) (hn : n ≤ 1024) :
    Calls Tryz.prog 69 #[.pointer (some ⟨xb, 0, none⟩)] w fun e w' => ∃ p cap, e = .returned (.slice p (lstE T n).length cap) ∧ SlsB w.heap.size w' p T (lstE T n) ∧ Below w.heap.size w w' := by
  obtain ⟨i0, hi, hz0, hz1, hz2⟩ := info_parts infoSlot3
  have HI := hide (And.intro hi (And.intro hz0 (And.intro hz1 hz2)))
  clear hi hz0 hz1 hz2
  have HRS := hide (rising_any h.mm hT hn)
  have HH := hide (And.intro h hT)
  have hel : (lstI T n).length = (lstE T n).length := by simp [lstI]
  have hlen : (lstE T n).length ≤ n := by
    have := List.length_filter_le (fun i => (T i).isSome) (List.range n)
    rw [List.length_range] at this
    exact this
  obtain ⟨m, hm⟩ : ∃ q, (lstE T n).length = q := ⟨_, rfl⟩
  rw [hel, hm] at HRS
  rw [hm] at hlen ⊢
  have HM := hide (And.intro hm hel)
  clear h hT hel hm
  go_enter Tryz.func69, Tryz.ntmps69
  go_wp2_with fail
  refine (unhide HRS).mono ?_
  rintro e x1 ⟨pv, cv, rfl, hIn, hb1⟩
  have X0 := hide (show EaI x1 T (lstE T n) (.slice none 0 0) 0 x1 from ⟨by rw [List.take_zero]; exact World.ownsRow_nil _ _ _ _, Below.refl _ _⟩)
  have H1 := hide (And.intro hIn hb1)
  clear hIn hb1 HRS
  go_wp2
  go_loopw [3, 11] (fun u i wr => ∃ k : Nat, k ≤ m ∧ i = .int .i64 (k : Int) ∧ EaI x1 T (lstE T n) u k wr) (fun _ i _ => m - (intOf i).toNat)
  case atStart => exact ⟨0, by omega, rfl, unhide X0⟩
  case round =>
    obtain ⟨k, hk, rfl, hR, hB⟩ := hrel
    obtain ⟨wo, rfl⟩ : ∃ wo, wo = wr := ⟨_, rfl⟩
    obtain ⟨pu, cu, rfl, hcu⟩ := row_form hR
    clear X0
    by_cases hkn : k < m
    · have hkn' : (k : Int) < (m : Int) := by omega
      have k0 : (0 : Int) ≤ (k : Int) := by omega
      obtain ⟨l1, l2, ⟨d, c, l3⟩, l4⟩ := lstE_at T n k (by rw [(unhide HM).1]; exact hkn)
      obtain ⟨g, oo, rfl, hgl, hcg⟩ := (unhide H1).1 k (by rw [(unhide HM).2, (unhide HM).1]; exact hkn)
      rw [l1, ← hB.cell (p := ⟨g, oo + k, none⟩) hgl] at hcg
      obtain ⟨i, hii⟩ : ∃ q, (lstE T n).getD k 0 = q := ⟨_, rfl⟩
      rw [hii] at l2 l3 l4 hcg
      have hbw : Below w.heap.size w wo := (unhide H1).2.trans (hB.mono (unhide H1).2.size)
      have HTE := hide (itell_any ((unhide HH).1.below hbw).mm (unhide HH).2 i l2 hn d c l3)
      have HR := hide (And.intro hR (And.intro hB (And.intro l3 l4)))
      clear hR hB l1 l3 l4 hii hgl hbw hcu
      go_wp2_with fail
      refine (unhide HTE).mono ?_
      rintro e y2 ⟨rfl, hb2⟩
      obtain ⟨hR, hB, l3, l4⟩ := unhide HR
      have hRA : (y2.alloc (.cells #[.int .i64 (i : Int), .string d, .int .i64 (c : Int)] 40)).ownsRow x1.heap.size 40 3 (.slice pu k cu) k (eaC T ((lstE T n).take k)) := (owns_only hR (Only.of_below (P := fun _ => False) hb2) (fun _ _ q => q)).alloc _
      have HRA := hide hRA
      have hB2 : Below x1.heap.size x1 y2 := hB.trans (hb2.mono hB.size)
      have HXB := hide (hB2.alloc hB2.size (.cells #[.int .i64 (i : Int), .string d, .int .i64 (c : Int)] 40))
      have HT := hide (show eaC T ((lstE T n).take (k + 1)) = eaC T ((lstE T n).take k) ++ [.int .i64 (i : Int), .string d, .int .i64 (c : Int)] from by
        rw [l4, eaC_app]
        congr 1
        show slC i (T i) ++ [] = _
        rw [l3]
        rfl)
      clear hR hB l3 l4 hRA hB2 hb2 HTE
      go_wp2_with (refine wpList_append_own _ rfl (.tmp 15) (.tmp 21) 123 rfl x1.heap.size 40 i0 (.agg #[.int .i64 0, .string ⟨#[]⟩, .int .i64 0]) 3 32 Tryz.underlying123 (unhide HI).1 (unhide HI).2.1 (unhide HI).2.2.1 (unhide HI).2.2.2 rfl (by decide) _ k (eaC T ((lstE T n).take k)) rfl (unhide HRA) ⟨y2.heap.size, 0, none⟩ 1 1 [.int .i64 (i : Int), .string d, .int .i64 (c : Int)] rfl rfl (fun q u hu => news_three y2 40 _ _ _ q u hu) (by simp [Value.oneCell']) (by unfold maxLen; omega) (by omega) (unhide HXB).size ?_)
      intro v5 x5 ho5 hg5 _
      have HRR := hide (show EaI x1 T (lstE T n) v5 (k + 1) x5 from ⟨by rw [unhide HT]; exact ho5, (unhide HXB).grown hg5 (unhide HXB).size (fun q hq => ((unhide HRA).lt q hq).1)⟩)
      clear ho5 hg5 HRA HXB HT hcg
      go_wp2
      go_roundw
      case rel => exact ⟨k + 1, by omega, by go_num, unhide HRR⟩
      case measure => simp [intOf]; omega
    · have hke : m = k := by omega
      have hkn' : ¬ (k : Int) < (m : Int) := by omega
      have HF := hide (And.intro hR (And.intro hB hke))
      clear hR hB hcu hke
      go_wp2
      go_ret
      obtain ⟨hR, hB, hke⟩ := unhide HF
      refine ⟨pu, ⟨cu, by rw [hke]; rfl⟩, ?_, (unhide H1).2.trans (hB.mono (unhide H1).2.size)⟩
      have hm := (unhide HM).1
      rw [List.take_of_length_le (by omega), ← hke, ← hm] at hR
      exact sls_ownB hR (unhide H1).2.size
theorem ieach_any {w0 w : World} {xb pb a eb bm n : Nat} {T : Nat → En} (h : IM w0 w xb pb a eb bm n T) (hT : TOk n T) (hn : n ≤ 1024) :
    Calls Tryz.prog 69 #[.pointer (some ⟨xb, 0, none⟩)] w fun e w' => ∃ p cap, e = .returned (.slice p (lstE T n).length cap) ∧ Sls w' p T (lstE T n) ∧ Below w.heap.size w w' := by
  refine (ieachB_any h hT hn).mono ?_
  rintro e w' ⟨p, cap, rfl, hS, hb⟩
  exact ⟨p, cap, rfl, fun k hk => by
    obtain ⟨g, o, h1, _, h2, h3⟩ := hS k hk
    exact ⟨g, o, h1, h2, h3⟩, hb⟩
end Go.Proofs.YtdpnbemagiekoaaGreatDoor

namespace Go.Proofs.YtdpnbemagiekoaaGreatDoor
open Go.RowKit Go.Maps Go.Sort Go.Shelf
set_option maxRecDepth 100000 in
set_option maxHeartbeats 2000000 in
theorem cLoad_hit {w0 w : World} {b jb pb xb eb bm mb sb : Nat} {Y : Nat → Prop} {n : Nat} {S : PS} {L : List ByteArray} {A : List (Nat × Nat)} {hn : Nat} {Mw Mn : List ByteArray} {T U : Nat → En} {B : Nat → Bool} (h : CG w0 w b jb pb xb eb bm mb sb Y n S L A hn Mw Mn T U B) (i : Nat) (hi : i < n) (d : ByteArray) (c : Nat) (hU : U i = some (d, c)) : Calls Tryz.prog 24 #[.pointer (some ⟨sb, 0, none⟩), .string d] w fun e w' => e = .returned (.tuple #[.string (Mn.getD (30 + i) ByteArray.empty), .int .i64 0]) ∧ CKept w0 w b jb pb xb eb bm mb sb Y n S L A hn Mw Mn T U B w' := by
  have HF := hide (cfind_hit h i hi d c hU)
  have X0 := hide h
  have HA := hide (fun W => cans_nil W)
  obtain ⟨t, hgt⟩ : ∃ q, Mn.getD (30 + i) ByteArray.empty = q := ⟨_, rfl⟩
  rw [hgt]
  have HGT := hide hgt
  clear h hU hgt
  go_enter Tryz.func24, Tryz.ntmps24
  go_wp2_with fail
  refine (unhide HF).mono ?_
  rintro e x2 ⟨rfl, hb2⟩
  obtain ⟨g, hg⟩ : ∃ q, x2.heap.size = q := ⟨_, rfl⟩
  obtain ⟨x3, hx3⟩ : ∃ q, x2.alloc (.cells #[.int .i64 (i : Int), .string d, .int .i64 (c : Int)] 40) = q := ⟨_, rfl⟩
  have hb3 : Below x2.heap.size x2 x3 := by rw [← hx3]; exact (Below.refl _ x2).alloc (Nat.le_refl _) _
  have B3 : Blk x3 g #[.int .i64 (i : Int), .string d, .int .i64 (c : Int)] 40 := by rw [← hx3, ← hg]; exact Blk.new x2 _ _
  have a0 : x3.cell? ⟨g, 0, none⟩ = some (.int .i64 (i : Int)) := B3.cell 0
  have hb23 : Below w.heap.size w x3 := hb2.trans (hb3.mono hb2.size)
  have HR := hide (cread_any ((unhide X0).below hb23) i hi)
  rw [unhide HGT] at HR
  have X3 := hide (Only.of_below (P := fun x => ¬ Xf Y xb eb bm x) hb23)
  clear hb2 hb3 B3 HF hb23 hi
  go_wp2_with fail
  refine (unhide HR).mono ?_
  rintro e x4 ⟨rfl, S4, k1, k2, k3, k4⟩
  have X4 := hide (And.intro k1 (And.intro k2 (And.intro k3 ((unhide X3).trans k4 (fun _ _ q => q)))))
  clear k1 k2 k3 k4 HR
  go_wp2_with (go_at_call 43; refine (unhide HA _).mono ?_; rintro e w' ⟨rfl, hw'⟩; subst w')
  go_ret2
  exact ⟨rfl, S4, (unhide X4).1, (unhide X4).2.1, (unhide X4).2.2.1, (unhide X4).2.2.2⟩
set_option maxRecDepth 100000 in
set_option maxHeartbeats 2000000 in
theorem cChunks_any {w0 w : World} {b jb pb xb eb bm mb sb : Nat} {Y : Nat → Prop} {n : Nat} {S : PS} {L : List ByteArray} {A : List (Nat × Nat)} {hn : Nat} {Mw Mn : List ByteArray} {T U : Nat → En} {B : Nat → Bool} (h : CG w0 w b jb pb xb eb bm mb sb Y n S L A hn Mw Mn T U B) : Calls Tryz.prog 25 #[.pointer (some ⟨sb, 0, none⟩)] w fun e w' => e = .returned (.int .i64 ((lstE U n).length : Int)) ∧ Below w.heap.size w w' := by
  have HW := hide (cwhole_any h)
  have HE := hide (ieach_any h.ig.im h.ig.oku (by have := h.n24; omega))
  obtain ⟨c0, c1, c2, c3⟩ := h.c
  clear h
  generalize (lstE U n).length = m at *
  go_enter Tryz.func25, Tryz.ntmps25
  go_wp2_with (go_at_call 68; refine (unhide HW).mono ?_; rintro e w' ⟨rfl, hw'⟩; subst w')
  refine (unhide HE).mono ?_
  rintro e x1 ⟨p, cap, rfl, -, hb1⟩
  have HB := hide hb1
  clear hb1 HE
  go_wp2
  go_ret
  exact ⟨rfl, unhide HB⟩
theorem CSt.write {w0 w : World} {b jb pb xb mb sb gb n z : Nat} {L : List ByteArray} {A : List (Nat × Nat)} {hn : Nat} {Tw T U : Nat → En} {Bw B : Nat → Bool} {Dw D : Nat → ByteArray} (h : CSt w0 w b jb pb xb mb sb gb n z true L A hn Tw T U Bw B Dw D) (hz : z ≤ 10) (i : Nat) (hi : i < n) (t : ByteArray) (ht : t.size = 256) : Calls Tryz.prog 23 #[.pointer (some ⟨pb, 0, none⟩), .int .i64 ((30 + i : Nat) : Int), .string t] w fun e w' => e = .returned (.int .i64 0) ∧ CSt w0 w' b jb pb xb mb sb gb n (z + 1) true L A hn Tw T U Bw B Dw (fun k => if k = i then t else D k) := by
  obtain ⟨S, eb, bm, Mw, Mn, h1, ⟨h2, h2k, h2t⟩, h3, h4, h5⟩ := h
  refine (h1.write h2 i hi t ht (h2t.room h1.srt hz _)).mono ?_
  rintro e w' ⟨rfl, k, _⟩
  exact ⟨rfl, CSt.chg1 h2k h2t h3 h4 h5 k i t (fun q hq => by rw [List.mem_singleton] at hq; exact .inr hq) (fun M hM => hM)⟩
theorem CSt.load {w0 w : World} {b jb pb xb mb sb gb n z : Nat} {op : Bool} {L : List ByteArray} {A : List (Nat × Nat)} {hn : Nat} {Tw T U : Nat → En} {Bw B : Nat → Bool} {Dw D : Nat → ByteArray} (h : CSt w0 w b jb pb xb mb sb gb n z op L A hn Tw T U Bw B Dw D) (i : Nat) (hi : i < n) (d : ByteArray) (c : Nat) (hU : U i = some (d, c)) (t : ByteArray) (hD : D i = t) : Calls Tryz.prog 24 #[.pointer (some ⟨sb, 0, none⟩), .string d] w fun e w' => e = .returned (.tuple #[.string t, .int .i64 0]) ∧ CSt w0 w' b jb pb xb mb sb gb n z op L A hn Tw T U Bw B Dw D := by
  obtain ⟨S, eb, bm, Mw, Mn, h1, ⟨h2, h2k, h2t⟩, h3, h4, h5⟩ := h
  have hc := cLoad_hit h1 i hi d c hU
  rw [(h4.2 i hi).trans hD] at hc
  refine hc.mono ?_
  rintro e w' ⟨rfl, k⟩
  exact ⟨rfl, CSt.kept h2 h2k h2t h3 h4 h5 k⟩
theorem CSt.chunks {w0 w : World} {b jb pb xb mb sb gb n z : Nat} {op : Bool} {L : List ByteArray} {A : List (Nat × Nat)} {hn : Nat} {Tw T U : Nat → En} {Bw B : Nat → Bool} {Dw D : Nat → ByteArray} (h : CSt w0 w b jb pb xb mb sb gb n z op L A hn Tw T U Bw B Dw D) : Calls Tryz.prog 25 #[.pointer (some ⟨sb, 0, none⟩)] w fun e w' => e = .returned (.int .i64 ((lstE U n).length : Int)) ∧ CSt w0 w' b jb pb xb mb sb gb n z op L A hn Tw T U Bw B Dw D := by
  have h' := h
  obtain ⟨S, eb, bm, Mw, Mn, h1, _⟩ := h
  refine (cChunks_any h1).mono ?_
  rintro e w' ⟨rfl, hb⟩
  exact ⟨rfl, h'.below hb⟩
end Go.Proofs.YtdpnbemagiekoaaGreatDoor

namespace Go.Proofs.YtdpnbemagiekoaaGreatDoor
open Go.RowKit Go.Maps Go.Sort Go.Shelf
theorem lea1 (n : Nat) (h : 1 < n) : Lea (flp (fun _ => false) 0) n 1 := ⟨h, rfl, fun j hj => by
    have e : j = 0 := Nat.lt_one_iff.1 hj
    rw [e]
    rfl⟩
set_option maxRecDepth 100000 in
set_option maxHeartbeats 8000000 in
theorem clash9_eq {e0 e1 e2 : Addr} (one two other : Int) (h1 : I64 one) (h2 : I64 two) (v1 v2 q : Nat) (hv1 : pickP one 21 = v1) (hv2 : pickP two 21 = v2) (hk : v2 = v1) (hq : q = (v2 + 1) % 21) (w : World) (hg : ETy w) (hK : KTab w) (hs : Snt w e0 e1 e2) : Calls Tryz.prog 4 #[.int .i64 one, .int .i64 two, .int .i64 other] w fun e w' => e = .returned (.bool true) ∧ Below w.heap.size w w' := by
  have l1 : v1 < 21 := by rw [← hv1]; exact pickP_lt one 21 (by omega)
  have l2 : v2 < 21 := by rw [← hv2]; exact pickP_lt two 21 (by omega)
  have lq : q < 21 := by omega
  have nq : v1 ≠ q := by omega
  have HF := hide (fresh9_any 5 (by decide) (by decide) w hg)
  simp only [Int.cast_ofNat_Int] at HF
  have HWO := hide (fun W => whole9_any one h1 W)
  have HP1 := hide (fun W => pick9_any one 21 (by omega) h1 21 rfl W)
  have HP2 := hide (fun W => pick9_any two 21 (by omega) h2 21 rfl W)
  rw [hv1] at HWO HP1
  rw [hv2] at HP2
  have HB := hide (fun W => block9_any q lq W)
  have hne := dgB_ne v1 q l1 lq nq
  have hnt := bkB_inj v1 q l1 lq nq
  have ht : (bkB v1).size = 256 := bkB_size _
  have hu : (bkB q).size = 256 := bkB_size _
  generalize bkB v1 = t at *
  generalize bkB q = u at *
  obtain ⟨d, hdd⟩ : ∃ q, dgB t = q := ⟨_, rfl⟩
  obtain ⟨d2, hdd2⟩ : ∃ q, dgB u = q := ⟨_, rfl⟩
  rw [hdd, hdd2] at hne
  have HG := hide (And.intro hK (And.intro hs (And.intro ht (And.intro hu (And.intro hdd (And.intro hdd2 (And.intro hne hnt)))))))
  have hkb : ((v2 : Int) == (v1 : Int)) = true := by rw [hk]; simp
  have e1 : ((v2 : Int) + 1).tmod 21 = (q : Int) := by rw [Int.tmod_eq_emod_of_nonneg (by omega)]; omega
  clear hg hK hs ht hu h1 h2 hdd hdd2 hne hnt hv1 hv2 hk hq nq
  go_enter Tryz.func4, Tryz.ntmps4
  go_wp2_with fail
  refine (unhide HF).mono ?_
  rintro e x0 ⟨b, jb, pb, xb, mb, sb, gb, L, A, rfl, hA, hC⟩
  clear HF
  go_wp2_with fail
  refine (unhide HWO _).mono ?_
  rintro e y0 ⟨rfl, hb0⟩
  replace hC := hC.below hb0
  clear hb0 HWO
  go_wp2_with fail
  refine (unhide HP2 _).mono ?_
  rintro e w' ⟨rfl, hw'⟩
  subst w'
  go_wp2_with fail
  refine (unhide HP1 _).mono ?_
  rintro e w' ⟨rfl, hw'⟩
  subst w'
  go_wp2_with fail
  refine (unhide HB _).mono ?_
  rintro e y1 ⟨rfl, hb1⟩
  replace hC := hC.below hb1
  clear hb1 HB HP1 HP2
  obtain ⟨k0, k1, k2, k3, k4⟩ := hC.c
  generalize (fun i => L.getD (30 + i) ByteArray.empty) = D0 at hC
  have HH := hide (hC.begin)
  try simp only [Int.cast_ofNat_Int] at HH
  have XC := hide hC
  clear hC
  go_wp2_with fail
  refine (unhide HH).mono ?_
  rintro e x1 ⟨rfl, hC⟩
  clear HH XC k0 k1 k2 k3 k4
  obtain ⟨k0, k1, k2, k3, k4⟩ := hC.c
  have HH := hide (hC.saveN (by decide) (unhide HG).1 (unhide HG).2.1 t d (unhide HG).2.2.2.2.1 (unhide HG).2.2.1 0 (lea0 5 (by decide)) (fun _ _ q => by cases q))
  try simp only [Int.cast_ofNat_Int] at HH
  have XC := hide hC
  clear hC
  go_wp2_with fail
  refine (unhide HH).mono ?_
  rintro e x2 ⟨rfl, hC⟩
  clear HH XC k0 k1 k2 k3 k4
  obtain ⟨k0, k1, k2, k3, k4⟩ := hC.c
  have HH := hide (hC.find 0 d 1 rfl)
  try simp only [Int.cast_ofNat_Int] at HH
  have XC := hide hC
  clear hC
  go_wp2_with fail
  refine (unhide HH).mono ?_
  rintro e x3 ⟨rfl, hC⟩
  clear HH XC k0 k1 k2 k3 k4
  obtain ⟨k0, k1, k2, k3, k4⟩ := hC.c
  have HH := hide (hC.write (by decide) 0 (by decide) u (unhide HG).2.2.2.1)
  try simp only [Int.cast_ofNat_Int] at HH
  simp only [Nat.add_zero, Int.cast_ofNat_Int] at HH
  have XC := hide hC
  clear hC
  go_wp2_with fail
  refine (unhide HH).mono ?_
  rintro e x4 ⟨rfl, hC⟩
  clear HH XC k0 k1 k2 k3 k4
  obtain ⟨k0, k1, k2, k3, k4⟩ := hC.c
  have HH := hide (hC.saveC (unhide HG).1 (unhide HG).2.1 t d (unhide HG).2.2.2.2.1 (unhide HG).2.2.1 0 (by decide) 1 rfl (fun q => (unhide HG).2.2.2.2.2.2.2 q.symm))
  try simp only [Int.cast_ofNat_Int] at HH
  have XC := hide hC
  clear hC
  go_wp2_with fail
  refine (unhide HH).mono ?_
  rintro e x5 ⟨rfl, hC⟩
  clear HH XC k0 k1 k2 k3 k4
  obtain ⟨k0, k1, k2, k3, k4⟩ := hC.c
  have HH := hide (hC.abort)
  try simp only [Int.cast_ofNat_Int] at HH
  have XC := hide hC
  clear hC
  go_wp2_with fail
  refine (unhide HH).mono ?_
  rintro e x6 ⟨rfl, hC⟩
  clear HH XC k0 k1 k2 k3 k4
  obtain ⟨k0, k1, k2, k3, k4⟩ := hC.c
  have HH := hide (hC.reload)
  try simp only [Int.cast_ofNat_Int] at HH
  have XC := hide hC
  clear hC
  go_wp2_with fail
  refine (unhide HH).mono ?_
  rintro e x7 ⟨rfl, hC⟩
  clear HH XC k0 k1 k2 k3 k4
  obtain ⟨k0, k1, k2, k3, k4⟩ := hC.c
  have HH := hide (hC.begin)
  try simp only [Int.cast_ofNat_Int] at HH
  have XC := hide hC
  clear hC
  go_wp2_with fail
  refine (unhide HH).mono ?_
  rintro e x8 ⟨rfl, hC⟩
  clear HH XC k0 k1 k2 k3 k4
  obtain ⟨k0, k1, k2, k3, k4⟩ := hC.c
  have HH := hide (hC.saveN (by decide) (unhide HG).1 (unhide HG).2.1 t d (unhide HG).2.2.2.2.1 (unhide HG).2.2.1 0 (lea0 5 (by decide)) (fun _ _ q => by cases q))
  try simp only [Int.cast_ofNat_Int] at HH
  have XC := hide hC
  clear hC
  go_wp2_with fail
  refine (unhide HH).mono ?_
  rintro e x9 ⟨rfl, hC⟩
  clear HH XC k0 k1 k2 k3 k4
  obtain ⟨k0, k1, k2, k3, k4⟩ := hC.c
  have HH := hide (hC.saveN (by decide) (unhide HG).1 (unhide HG).2.1 u d2 (unhide HG).2.2.2.2.2.1 (unhide HG).2.2.2.1 1 (lea1 5 (by decide)) (fun j c' q => by
    by_cases e : j = 0
    · subst e
      exact (unhide HG).2.2.2.2.2.2.1 (Prod.mk.inj (Option.some.inj q)).1
    · rw [upd, if_neg e] at q
      cases q))
  try simp only [Int.cast_ofNat_Int] at HH
  have XC := hide hC
  clear hC
  go_wp2_with fail
  refine (unhide HH).mono ?_
  rintro e x10 ⟨rfl, hC⟩
  clear HH XC k0 k1 k2 k3 k4
  obtain ⟨k0, k1, k2, k3, k4⟩ := hC.c
  have HH := hide (hC.load 1 (by decide) d2 1 rfl u rfl)
  try simp only [Int.cast_ofNat_Int] at HH
  have XC := hide hC
  clear hC
  go_wp2_with fail
  refine (unhide HH).mono ?_
  rintro e x11 ⟨rfl, hC⟩
  clear HH XC k0 k1 k2 k3 k4
  obtain ⟨k0, k1, k2, k3, k4⟩ := hC.c
  have HH := hide (hC.commit (by omega))
  try simp only [Int.cast_ofNat_Int] at HH
  have XC := hide hC
  clear hC
  go_wp2_with fail
  refine (unhide HH).mono ?_
  rintro e x12 ⟨rfl, L', A', hA', hC⟩
  clear HH XC k0 k1 k2 k3 k4
  obtain ⟨k0, k1, k2, k3, k4⟩ := hC.c
  have HH := hide (hC.chunks)
  try simp only [Int.cast_ofNat_Int] at HH
  have hl : (lstE (upd (upd (fun _ => none) 0 (some (d, 1))) 1 (some (d2, 1))) 5).length = 2 := rfl
  rw [hl] at HH
  clear hl
  simp only [Int.cast_ofNat_Int] at HH
  have XC := hide hC
  clear hC
  go_wp2_with fail
  refine (unhide HH).mono ?_
  rintro e x13 ⟨rfl, hC⟩
  clear HH XC k0 k1 k2 k3 k4
  obtain ⟨k0, k1, k2, k3, k4⟩ := hC.c
  have HBL := hide hC.bel
  clear hC
  go_wp2
  go_ret
  exact ⟨rfl, unhide HBL⟩
set_option maxRecDepth 100000 in
set_option maxHeartbeats 8000000 in
theorem clash9_ne {e0 e1 e2 : Addr} (one two other : Int) (h1 : I64 one) (h2 : I64 two) (v1 v2 q : Nat) (hv1 : pickP one 21 = v1) (hv2 : pickP two 21 = v2) (hk : v2 ≠ v1) (hq : q = v2) (w : World) (hg : ETy w) (hK : KTab w) (hs : Snt w e0 e1 e2) : Calls Tryz.prog 4 #[.int .i64 one, .int .i64 two, .int .i64 other] w fun e w' => e = .returned (.bool true) ∧ Below w.heap.size w w' := by
  have l1 : v1 < 21 := by rw [← hv1]; exact pickP_lt one 21 (by omega)
  have l2 : v2 < 21 := by rw [← hv2]; exact pickP_lt two 21 (by omega)
  have lq : q < 21 := by omega
  have nq : v1 ≠ q := by omega
  have HF := hide (fresh9_any 5 (by decide) (by decide) w hg)
  simp only [Int.cast_ofNat_Int] at HF
  have HWO := hide (fun W => whole9_any one h1 W)
  have HP1 := hide (fun W => pick9_any one 21 (by omega) h1 21 rfl W)
  have HP2 := hide (fun W => pick9_any two 21 (by omega) h2 21 rfl W)
  rw [hv1] at HWO HP1
  rw [hv2] at HP2
  have HB := hide (fun W => block9_any q lq W)
  have hne := dgB_ne v1 q l1 lq nq
  have hnt := bkB_inj v1 q l1 lq nq
  have ht : (bkB v1).size = 256 := bkB_size _
  have hu : (bkB q).size = 256 := bkB_size _
  generalize bkB v1 = t at *
  generalize bkB q = u at *
  obtain ⟨d, hdd⟩ : ∃ q, dgB t = q := ⟨_, rfl⟩
  obtain ⟨d2, hdd2⟩ : ∃ q, dgB u = q := ⟨_, rfl⟩
  rw [hdd, hdd2] at hne
  have HG := hide (And.intro hK (And.intro hs (And.intro ht (And.intro hu (And.intro hdd (And.intro hdd2 (And.intro hne hnt)))))))
  have hkb : ((v2 : Int) == (v1 : Int)) = false := by simp; omega
  subst hq
  clear hg hK hs ht hu h1 h2 hdd hdd2 hne hnt hv1 hv2 hk  nq
  go_enter Tryz.func4, Tryz.ntmps4
  go_wp2_with fail
  refine (unhide HF).mono ?_
  rintro e x0 ⟨b, jb, pb, xb, mb, sb, gb, L, A, rfl, hA, hC⟩
  clear HF
  go_wp2_with fail
  refine (unhide HWO _).mono ?_
  rintro e y0 ⟨rfl, hb0⟩
  replace hC := hC.below hb0
  clear hb0 HWO
  go_wp2_with fail
  refine (unhide HP2 _).mono ?_
  rintro e w' ⟨rfl, hw'⟩
  subst w'
  go_wp2_with fail
  refine (unhide HP1 _).mono ?_
  rintro e w' ⟨rfl, hw'⟩
  subst w'
  go_wp2_with fail
  refine (unhide HB _).mono ?_
  rintro e y1 ⟨rfl, hb1⟩
  replace hC := hC.below hb1
  clear hb1 HB HP1 HP2
  obtain ⟨k0, k1, k2, k3, k4⟩ := hC.c
  generalize (fun i => L.getD (30 + i) ByteArray.empty) = D0 at hC
  have HH := hide (hC.begin)
  try simp only [Int.cast_ofNat_Int] at HH
  have XC := hide hC
  clear hC
  go_wp2_with fail
  refine (unhide HH).mono ?_
  rintro e x1 ⟨rfl, hC⟩
  clear HH XC k0 k1 k2 k3 k4
  obtain ⟨k0, k1, k2, k3, k4⟩ := hC.c
  have HH := hide (hC.saveN (by decide) (unhide HG).1 (unhide HG).2.1 t d (unhide HG).2.2.2.2.1 (unhide HG).2.2.1 0 (lea0 5 (by decide)) (fun _ _ q => by cases q))
  try simp only [Int.cast_ofNat_Int] at HH
  have XC := hide hC
  clear hC
  go_wp2_with fail
  refine (unhide HH).mono ?_
  rintro e x2 ⟨rfl, hC⟩
  clear HH XC k0 k1 k2 k3 k4
  obtain ⟨k0, k1, k2, k3, k4⟩ := hC.c
  have HH := hide (hC.find 0 d 1 rfl)
  try simp only [Int.cast_ofNat_Int] at HH
  have XC := hide hC
  clear hC
  go_wp2_with fail
  refine (unhide HH).mono ?_
  rintro e x3 ⟨rfl, hC⟩
  clear HH XC k0 k1 k2 k3 k4
  obtain ⟨k0, k1, k2, k3, k4⟩ := hC.c
  have HH := hide (hC.write (by decide) 0 (by decide) u (unhide HG).2.2.2.1)
  try simp only [Int.cast_ofNat_Int] at HH
  simp only [Nat.add_zero, Int.cast_ofNat_Int] at HH
  have XC := hide hC
  clear hC
  go_wp2_with fail
  refine (unhide HH).mono ?_
  rintro e x4 ⟨rfl, hC⟩
  clear HH XC k0 k1 k2 k3 k4
  obtain ⟨k0, k1, k2, k3, k4⟩ := hC.c
  have HH := hide (hC.saveC (unhide HG).1 (unhide HG).2.1 t d (unhide HG).2.2.2.2.1 (unhide HG).2.2.1 0 (by decide) 1 rfl (fun q => (unhide HG).2.2.2.2.2.2.2 q.symm))
  try simp only [Int.cast_ofNat_Int] at HH
  have XC := hide hC
  clear hC
  go_wp2_with fail
  refine (unhide HH).mono ?_
  rintro e x5 ⟨rfl, hC⟩
  clear HH XC k0 k1 k2 k3 k4
  obtain ⟨k0, k1, k2, k3, k4⟩ := hC.c
  have HH := hide (hC.abort)
  try simp only [Int.cast_ofNat_Int] at HH
  have XC := hide hC
  clear hC
  go_wp2_with fail
  refine (unhide HH).mono ?_
  rintro e x6 ⟨rfl, hC⟩
  clear HH XC k0 k1 k2 k3 k4
  obtain ⟨k0, k1, k2, k3, k4⟩ := hC.c
  have HH := hide (hC.reload)
  try simp only [Int.cast_ofNat_Int] at HH
  have XC := hide hC
  clear hC
  go_wp2_with fail
  refine (unhide HH).mono ?_
  rintro e x7 ⟨rfl, hC⟩
  clear HH XC k0 k1 k2 k3 k4
  obtain ⟨k0, k1, k2, k3, k4⟩ := hC.c
  have HH := hide (hC.begin)
  try simp only [Int.cast_ofNat_Int] at HH
  have XC := hide hC
  clear hC
  go_wp2_with fail
  refine (unhide HH).mono ?_
  rintro e x8 ⟨rfl, hC⟩
  clear HH XC k0 k1 k2 k3 k4
  obtain ⟨k0, k1, k2, k3, k4⟩ := hC.c
  have HH := hide (hC.saveN (by decide) (unhide HG).1 (unhide HG).2.1 t d (unhide HG).2.2.2.2.1 (unhide HG).2.2.1 0 (lea0 5 (by decide)) (fun _ _ q => by cases q))
  try simp only [Int.cast_ofNat_Int] at HH
  have XC := hide hC
  clear hC
  go_wp2_with fail
  refine (unhide HH).mono ?_
  rintro e x9 ⟨rfl, hC⟩
  clear HH XC k0 k1 k2 k3 k4
  obtain ⟨k0, k1, k2, k3, k4⟩ := hC.c
  have HH := hide (hC.saveN (by decide) (unhide HG).1 (unhide HG).2.1 u d2 (unhide HG).2.2.2.2.2.1 (unhide HG).2.2.2.1 1 (lea1 5 (by decide)) (fun j c' q => by
    by_cases e : j = 0
    · subst e
      exact (unhide HG).2.2.2.2.2.2.1 (Prod.mk.inj (Option.some.inj q)).1
    · rw [upd, if_neg e] at q
      cases q))
  try simp only [Int.cast_ofNat_Int] at HH
  have XC := hide hC
  clear hC
  go_wp2_with fail
  refine (unhide HH).mono ?_
  rintro e x10 ⟨rfl, hC⟩
  clear HH XC k0 k1 k2 k3 k4
  obtain ⟨k0, k1, k2, k3, k4⟩ := hC.c
  have HH := hide (hC.load 1 (by decide) d2 1 rfl u rfl)
  try simp only [Int.cast_ofNat_Int] at HH
  have XC := hide hC
  clear hC
  go_wp2_with fail
  refine (unhide HH).mono ?_
  rintro e x11 ⟨rfl, hC⟩
  clear HH XC k0 k1 k2 k3 k4
  obtain ⟨k0, k1, k2, k3, k4⟩ := hC.c
  have HH := hide (hC.commit (by omega))
  try simp only [Int.cast_ofNat_Int] at HH
  have XC := hide hC
  clear hC
  go_wp2_with fail
  refine (unhide HH).mono ?_
  rintro e x12 ⟨rfl, L', A', hA', hC⟩
  clear HH XC k0 k1 k2 k3 k4
  obtain ⟨k0, k1, k2, k3, k4⟩ := hC.c
  have HH := hide (hC.chunks)
  try simp only [Int.cast_ofNat_Int] at HH
  have hl : (lstE (upd (upd (fun _ => none) 0 (some (d, 1))) 1 (some (d2, 1))) 5).length = 2 := rfl
  rw [hl] at HH
  clear hl
  simp only [Int.cast_ofNat_Int] at HH
  have XC := hide hC
  clear hC
  go_wp2_with fail
  refine (unhide HH).mono ?_
  rintro e x13 ⟨rfl, hC⟩
  clear HH XC k0 k1 k2 k3 k4
  obtain ⟨k0, k1, k2, k3, k4⟩ := hC.c
  have HBL := hide hC.bel
  clear hC
  go_wp2
  go_ret
  exact ⟨rfl, unhide HBL⟩
theorem clash9_walk {e0 e1 e2 : Addr} (one : Int) (h1 : I64 one) (two : Int) (h2 : I64 two) (other : Int) (w : World) (hg : ETy w) (hK : KTab w) (hs : Snt w e0 e1 e2) : Calls Tryz.prog 4 #[.int .i64 one, .int .i64 two, .int .i64 other] w fun e w' => e = .returned (.bool true) ∧ Below w.heap.size w w' := by
  by_cases hk : pickP two 21 = pickP one 21
  · exact clash9_eq one two other h1 h2 _ _ _ rfl rfl hk rfl w hg hK hs
  · exact clash9_ne one two other h1 h2 _ _ _ rfl rfl hk rfl w hg hK hs
end Go.Proofs.YtdpnbemagiekoaaGreatDoor
