import Derived.Test.YtnfcnpolflfpfaaGreatDoorMr42
import Derived.Test.YtnfcnpolflfpfaaGreatDoorMr13
import Derived.Test.YtnfcnpolflfpfaaGreatDoorMr15
import Derived.Test.YtnfcnpolflfpfaaGreatDoorMr24
import Derived.Test.YtnfcnpolflfpfaaGreatDoorMr44
import Derived.Maps.RangeWalk
namespace Go.Proofs.YtnfcnpolflfpfaaGreatDoor
open Go.RowKit Go.Maps Go.Sort Go.Shelf
/-- The places at which something stands. -/
def lstE (T : Nat → En) (n : Nat) : List Nat := (List.range n).filter fun i => (T i).isSome
def lstI (T : Nat → En) (n : Nat) : List Int := (lstE T n).map fun i : Nat => (i : Int)
/-- What a loop over the map has collected. -/
structure Coll (D : DataW Unit) (T : Nat → En) (left : Lit → Bool) (l : List Int) : Prop where
  nd : l.Nodup
  mem : ∀ x, x ∈ l ↔ ∃ (i : Nat) (d : ByteArray) (c : Nat), T i = some (d, c) ∧ x = (i : Int) ∧ left (.string d.data.toList) = false
theorem coll_start {D : DataW Unit} {T : Nat → En} (h : PD D T) : Coll D T (has D) [] := by
  refine ⟨List.nodup_nil, fun x => ⟨fun q => (by cases q), fun ⟨i, d, c, hi, _, hl⟩ => ?_⟩⟩
  rw [(h.2 i d c hi).1] at hl
  cases hl
theorem coll_step {D : DataW Unit} {T : Nat → En} {n : Nat} {left : Lit → Bool} {l : List Int} (h : PD D T) (hT : TOk n T) (hc : Coll D T left l) {kl : Lit} {c : Int} (hl : left kl = true) (hat : ∀ zd, D.atKey kl zd = .lit (.int .i64 c)) :
    Coll D T (fun z => left z && !z.sameKey kl) (l ++ [c]) ∧ ∃ i : Nat, c = (i : Int) ∧ i < n := by
  have hh : has D kl = true := has_true_of_atKey hat
  obtain ⟨i, d, cc, hi, rfl⟩ := h.1 kl hh
  have hci : c = (i : Int) := by
    have := (hat .nil).symm.trans ((h.2 i d cc hi).2 .nil)
    simpa using this
  subst hci
  refine ⟨⟨?_, fun x => ?_⟩, i, rfl, hT.lt hi⟩
  · rw [List.nodup_append]
    refine ⟨hc.nd, by simp, fun a ha b hb e => ?_⟩
    simp at hb
    subst hb e
    obtain ⟨i', d', c', hi', e', hl'⟩ := (hc.mem _).1 ha
    have : i = i' := by omega
    subst this
    rw [hi] at hi'
    obtain ⟨rfl, rfl⟩ : d = d' ∧ cc = c' := by simpa using hi'
    rw [hl] at hl'
    cases hl'
  · constructor
    · intro hx
      rcases List.mem_append.1 hx with q | q
      · obtain ⟨i', d', c', hi', e', hl'⟩ := (hc.mem x).1 q
        exact ⟨i', d', c', hi', e', by simp [hl']⟩
      · simp at q
        exact ⟨i, d, cc, hi, q, by simp [WideAt.sameKey_self (keyLitS _)]⟩
    · rintro ⟨i', d', c', hi', e', hl'⟩
      by_cases e : i' = i
      · subst e
        exact List.mem_append.2 (.inr (by simp [e']))
      · refine List.mem_append.2 (.inl ((hc.mem x).2 ⟨i', d', c', hi', e', ?_⟩))
        have hne : (Lit.string d'.data.toList).sameKey (.string d.data.toList) = false := by
          cases hq : (Lit.string d'.data.toList).sameKey (.string d.data.toList) with
          | false => rfl
          | true =>
            have := data_inj (WideAt.sameKey_eq hq)
            subst this
            exact absurd (hT.one i' i d' c' cc hi' hi) e
        simpa [hne] using hl'
theorem coll_len {D : DataW Unit} {T : Nat → En} {n : Nat} {left : Lit → Bool} {l : List Int} (hT : TOk n T) (hc : Coll D T left l) : l.length ≤ n := by
  have := nodup_sub l ((List.range n).map fun i : Nat => (i : Int)) hc.nd (fun x hx => by
    obtain ⟨i, d, c, hi, e, _⟩ := (hc.mem x).1 hx
    exact List.mem_map.2 ⟨i, List.mem_range.2 (hT.lt hi), e.symm⟩)
  simpa using this
theorem lstI_mem (T : Nat → En) (n : Nat) (hT : TOk n T) (x : Int) : x ∈ lstI T n ↔ ∃ (i : Nat) (d : ByteArray) (c : Nat), T i = some (d, c) ∧ x = (i : Int) := by
  unfold lstI lstE
  constructor
  · intro h
    obtain ⟨i, hi, rfl⟩ := List.mem_map.1 h
    obtain ⟨_, q⟩ := List.mem_filter.1 hi
    obtain ⟨p, hp⟩ := Option.isSome_iff_exists.1 q
    exact ⟨i, p.1, p.2, hp, rfl⟩
  · rintro ⟨i, d, c, hi, rfl⟩
    exact List.mem_map.2 ⟨i, List.mem_filter.2 ⟨List.mem_range.2 (hT.lt hi), by rw [hi]; rfl⟩, rfl⟩
theorem lstI_sorted (T : Nat → En) (n : Nat) : (lstI T n).Pairwise (fun x y => x < y) := by
  unfold lstI lstE
  refine List.pairwise_map.2 ((List.pairwise_lt_range (n := n)).filter _ |>.imp (fun h => by omega))
theorem coll_end {D : DataW Unit} {T : Nat → En} {n : Nat} {left : Lit → Bool} {l : List Int} (hT : TOk n T) (hc : Coll D T left l) (hl : ∀ kl, left kl = false) : (l.mergeSort fun x y => decide (x ≤ y)) = lstI T n ∧ l.length = (lstI T n).length := by
  have hperm : l.Perm (lstI T n) := by
    refine (List.perm_ext_iff_of_nodup hc.nd ((lstI_sorted T n).imp (fun h => by omega))).2 (fun x => ?_)
    rw [hc.mem x, lstI_mem T n hT]
    exact ⟨fun ⟨i, d, c, h1, h2, _⟩ => ⟨i, d, c, h1, h2⟩, fun ⟨i, d, c, h1, h2⟩ => ⟨i, d, c, h1, h2, hl _⟩⟩
  refine ⟨?_, hperm.length_eq⟩
  refine List.Perm.eq_of_pairwise (le := fun x y : Int => x ≤ y) (fun a b _ _ h1 h2 => by omega) ?_ ((lstI_sorted T n).imp (fun h => by omega)) ((List.mergeSort_perm _ _).trans hperm)
  have := List.pairwise_mergeSort (le := fun x y : Int => decide (x ≤ y)) (fun a b c h1 h2 => by simp at h1 h2 ⊢; omega) (fun a b => by simp; omega) l
  exact this.imp (fun h => by simpa using h)
/-- A loop over the map under way. -/
def RisI (w : World) (bm r n : Nat) (D : DataW Unit) (T : Nat → En) (u : Value) (wr : World) : Prop :=
  ∃ left cnt l, wr.ranges Tryz.prog 154 (plainElem Tryz.prog 3) bm r n D left cnt ∧ Coll D T left l ∧ l.length ≤ n ∧ wr.ownsRow w.heap.size 3 1 u l.length (l.map (Value.int .i64)) ∧ (∀ k, u.ownBlock = some k → k ≠ r) ∧ Below w.heap.size w wr
theorem blk_range {w : World} {b r n cnt : Nat} {D : DataW Unit} {left : Lit → Bool} {g : Nat} {cur : Array Value} {U : TypeId} (h : w.ranges Tryz.prog 154 (plainElem Tryz.prog 3) b r n D left cnt) (hb : Blk w g cur U) : g ≠ b ∧ g ≠ r := by
  obtain ⟨es, clock, since, seen, c0, h1, _, _, _, h2, _⟩ := h
  constructor
  · intro e
    subst e
    have := (show w.heap[g]? = _ from hb).symm.trans h1
    simp at this
  · intro e
    subst e
    have := (show w.heap[g]? = _ from hb).symm.trans h2
    simp at this
theorem own_blk {w : World} {base n : Nat} {v : Value} {xs : List Value} {k : Nat} {e : TypeId} {s : Nat} (h : w.ownsRow base e s v n xs) (hk : v.ownBlock = some k) : ∃ cur, Blk w k cur e := by
  rcases h.2 with ⟨rfl, _⟩ | ⟨g, cap, cur, rfl, _, hh, _⟩
  · simp [Value.ownBlock] at hk
  · obtain rfl : g = k := by simpa [Value.ownBlock] using hk
    exact ⟨cur, hh⟩
theorem own_formE {w : World} {B : Nat} {e : TypeId} {k n : Nat} {v : Value} {xs : List Value} (h : w.ownsRow B e k v n xs) (hn : 0 < n) : ∃ g cap, v = .slice (some ⟨g, 0, none⟩) n cap := by
  rcases h.2 with ⟨h1, h2⟩ | ⟨g, cap, cur, h1, _⟩
  · omega
  · exact ⟨g, cap, h1⟩
theorem holds_own {w : World} {base g cap n : Nat} {l : List Int} (h : w.ownsRow base 3 1 (.slice (some ⟨g, 0, none⟩) n cap) l.length (l.map (Value.int .i64))) : Go.Sort.Holds (Value.int .i64) w g 0 l.toArray := by
  intro j hj
  have hj' : j < l.length := by simpa using hj
  rcases h.2 with ⟨h1, _⟩ | ⟨g', cap', cur, h1, _, hh, hn, _, hs, hx⟩
  · cases h1
  · obtain ⟨rfl, rfl, rfl⟩ : g = g' ∧ n = l.length ∧ cap = cap' := by simpa using h1
    rw [Nat.mul_one] at hs hx
    rw [Nat.zero_add, cell_of_row w g j cur 3 (0, 0) hh]
    refine ⟨?_, by simp [World.frozen?, hh]⟩
    have e : cur.toList[j]? = (l.map (Value.int .i64))[j]? := by rw [← hx, List.getElem?_take, if_pos hj']
    rw [← Array.getElem?_toList, e]
    simp [hj']
set_option maxRecDepth 100000 in
set_option maxHeartbeats 2000000 in
theorem rising_any {w : World} {mb mo eb bm n : Nat} {T : Nat → En} (h : MM w mb mo eb bm n T) (hT : TOk n T) (hn : n ≤ 1024) :
    Calls Tryz.prog 117 #[.pointer (some ⟨mb, mo, none⟩)] w fun e w' => ∃ p cap, e = .returned (.slice p (lstI T n).length cap) ∧ Ints w' p (lstI T n) ∧ Below w.heap.size w w' := by
  obtain ⟨i0, hi, hz0, hz1, hz2⟩ := info_parts infoI3
  have HI := hide (And.intro hi (And.intro hz0 (And.intro hz1 hz2)))
  clear hi hz0 hz1 hz2
  obtain ⟨D, hown, hPD⟩ := h.pm
  have c1 := h.c1
  have HQ := hide (And.intro hT (And.intro hPD hn))
  clear h hT hPD
  go_enter Tryz.func117, Tryz.ntmps117
  go_wp2_with (first
    | (at_range; refine wpList_range_own _ rfl _ 124 rfl 154 3 lawKey Tryz.underlying124 _ bm n D rfl hown ?_; intro x0 hrg0 hg0 hs0)
    | go_in)
  go_frame
  have X0 := hide (show RisI w bm w.heap.size n D T (.slice none 0 0) x0 from ⟨_, _, [], hrg0, coll_start (unhide HQ).2.1, Nat.zero_le _, World.ownsRow_nil _ _ _ _, fun k q => (by cases q), (Below.refl _ w).grown hg0 (Nat.le_refl _) (fun k q => (by cases q))⟩)
  clear hrg0 hg0 hs0 hown c1
  go_loopw [3] (fun u wr => RisI w bm w.heap.size n D T u wr) (fun _ wr => wr.rangeLeft bm w.heap.size)
  case atStart => exact unhide X0
  case round =>
    obtain ⟨left, cnt, l, hrg, hco, hln, hrow, hnr, hbel⟩ := hrel
    clear X0
    go_wp2_with (first
      | (at_next; refine wpList_next_ranges _ rfl _ rfl 154 lawKey (plainElem Tryz.prog 3) (fun v : Value => v) (Value.int .i64) (fun key kl _ => ⟨key, rfl⟩) (fun v y hv => by obtain ⟨c, rfl, _⟩ := plainElem_int_inv Tryz.underlying3 hv; exact ⟨c, rfl⟩) bm w.heap.size n _ _ _ rfl hrg ?_ ?_)
      | go_in)
    · intro _ hl0
      obtain ⟨hms, hlen⟩ := coll_end (unhide HQ).1 hco hl0
      obtain ⟨pv, cv, rfl, hcv⟩ := row_form hrow
      cases l with
      | nil =>
        have HE := hide (show lstI T n = [] from List.length_eq_zero_iff.1 hlen.symm)
        have HSN := hide (Tryz.slices_Sort_int_none pv cv wr)
        have HB := hide hbel
        clear hrg hco hln hrow hnr hbel hms hlen hl0 hcv
        simp only [List.length_nil]
        go_wp2_with (go_at_call 157; refine (unhide HSN).mono ?_; rintro e w' ⟨rfl, hw'⟩; subst w')
        go_ret
        rw [unhide HE]
        exact ⟨pv, cv, rfl, fun j hj => absurd hj (Nat.not_lt_zero j), unhide HB⟩
      | cons a0 lr =>
        obtain ⟨L1, hL1⟩ : ∃ q, a0 :: lr = q := ⟨_, rfl⟩
        rw [hL1] at hms hlen hrow hln ⊢
        have hpos : 0 < L1.length := by rw [← hL1]; simp
        obtain ⟨g, cap, hge⟩ := own_formE hrow hpos
        obtain ⟨rfl, rfl⟩ : pv = some ⟨g, 0, none⟩ ∧ cv = cap := by simpa using hge
        obtain ⟨cur, hgb⟩ := own_blk hrow (k := g) rfl
        have hH := holds_own hrow
        have hgl : g < wr.heap.size := hgb.lt
        have hgw : w.heap.size ≤ g := (hrow.lt g rfl).1
        have hcS := Tryz.slices_Sort_int g 0 cv L1 wr hH hgl (by omega)
        rw [hms] at hcS
        have HCS := hide hcS
        have HQ2 := hide (And.intro hH (And.intro hgl (And.intro hgw (And.intro hbel (And.intro hlen hms)))))
        obtain ⟨ll, hll⟩ : ∃ q, L1.length = q := ⟨_, rfl⟩
        rw [hll] at HCS hpos ⊢
        have HLL := hide hll
        clear hrg hco hln hrow hnr hbel hms hlen hl0 hcv hge hgb hH hgl hgw hcS hL1 hll
        go_wp2_with fail
        refine (unhide HCS).mono ?_
        rintro e x3 ⟨rfl, k3, os3, hx3⟩
        obtain ⟨hH, hgl, hgw, hbel, hlen, hms⟩ := unhide HQ2
        have hsz : (Go.Sort.putRow (Value.int .i64) (Go.Sort.ahead wr k3) g 0 (lstI T n).toArray).heap.size = wr.heap.size := by simp [Go.Sort.putRow, Go.Sort.mapBlock, Go.Sort.ahead]
        have hH3 : Go.Sort.Holds (Value.int .i64) x3 g 0 (lstI T n).toArray := by
          rw [hx3]
          refine Go.Sort.holds_grow _ _ _ _ _ _ ?_ (Go.Sort.holds_putRow _ _ _ _ L1.toArray _ hH (by simp [hlen]))
          rw [hsz]
          exact hgl
        have hb3 : Below w.heap.size w x3 := by
          rw [hx3]
          refine below_growJ (Go.Lib.below_putRow hbel hgw) ?_ _
          rw [hsz]
          exact hbel.size
        have hl9 := unhide HLL
        have hgl3 : g < x3.heap.size := World.block_lt_of_cell? x3 _ (hH3 0 (by rw [List.size_toArray]; omega)).1
        clear hl9
        have HF := hide (And.intro hH3 (And.intro hb3 (And.intro hgl3 hlen)))
        clear hx3 hsz hH3 hb3 hgl3 hH hgl hgw hbel hlen hms HCS HQ2
        go_wp2
        go_ret
        obtain ⟨hH3, hb3, hgl3, hlen⟩ := unhide HF
        refine ⟨some ⟨g, 0, none⟩, cv, by rw [← hlen, unhide HLL]; rfl, fun j hj => ⟨g, 0, rfl, hgl3, ?_⟩, hb3⟩
        rw [(hH3 j (by simpa using hj)).1]
        simp [hj]
    · intro x c kl ya yb w1 cnt1 hkx hlx hy hat hrg1 hlt hg1 hs1 hen
      have hya : ya = .lit (.int .i64 c) := by
        obtain ⟨c', e1, e2, _⟩ := plainElem_int_inv Tryz.underlying3 hy
        obtain rfl : c = c' := by simpa using e1
        exact congrArg Prod.fst e2
      subst hya
      obtain ⟨hco2, ic, hic, hicn⟩ := coll_step (unhide HQ).2.1 (unhide HQ).1 hco hlx hat
      have hrow1 : w1.ownsRow w.heap.size 3 1 u3 l.length (l.map (Value.int .i64)) := hrow.kept hg1 (.inr (fun e => hnr _ e rfl))
      have hb1 : Below w.heap.size w w1 := hbel.grown hg1 hbel.size (fun k q => by cases q; exact Nat.le_refl _)
      have hl2 : l.length + 1 ≤ n := by
        have := coll_len (unhide HQ).1 hco2
        rwa [List.length_append] at this
      have hRA : (w1.alloc (.cells #[.int .i64 c] 3)).ownsRow w.heap.size 3 1 u3 l.length (l.map (Value.int .i64)) := hrow1.alloc _
      have HRA := hide hRA
      have HR1 := hide (hrg1.alloc (.cells #[.int .i64 c] 3))
      have HXB := hide (show Below w.heap.size w (w1.alloc (.cells #[.int .i64 c] 3)) from hb1.alloc hb1.size _)
      have HCO := hide (And.intro hco2 (And.intro hl2 (And.intro hnr (And.intro hlt hrg))))
      obtain ⟨pv, cv, rfl, hcv⟩ := row_form hrow
      obtain ⟨m, hm⟩ : ∃ q, l.length = q := ⟨_, rfl⟩
      rw [hm] at HRA ⊢
      have hmn : m ≤ 1024 := by omega
      have HM := hide hm
      clear hs1 hrg hco hln hrow hnr hbel hkx hlx hy hat hrg1 hlt hg1 hco2 hic hicn hrow1 hb1 hl2 hRA hm hcv
      go_wp2_with (refine wpList_append_own _ rfl (.tmp 15) (.tmp 17) 70 rfl w.heap.size 3 i0 (.int .i64 0) 1 8 Tryz.underlying70 (unhide HI).1 (unhide HI).2.1 (unhide HI).2.2.1 (unhide HI).2.2.2 rfl (by decide) _ m (l.map (Value.int .i64)) rfl (unhide HRA) ⟨w1.heap.size, 0, none⟩ 1 1 [.int .i64 c] rfl rfl (fun q u hu => news_one w1 3 _ q u hu) (by simp [Value.oneCell']) (by unfold maxLen; omega) (by omega) (unhide HXB).size ?_)
      intro v5 x5 ho5 hg5 _
      obtain ⟨hco2, hl2, hnr, hlt, hrg⟩ := unhide HCO
      have hx5 : x5.ranges Tryz.prog 154 (plainElem Tryz.prog 3) bm w.heap.size n D (fun z => left z && !z.sameKey kl) cnt1 := by
        refine (unhide HR1).kept hg5 (fun e => ?_) (fun e => hnr _ (by rw [unhide HM]; exact e.symm) rfl)
        obtain ⟨cur, hb⟩ := own_blk (unhide HRA) e.symm
        exact (blk_range (unhide HR1) hb).1 rfl
      have hb5 : Below w.heap.size w x5 := (unhide HXB).grown hg5 (unhide HXB).size (fun q hq => ((unhide HRA).lt q hq).1)
      have ho6 : x5.ownsRow w.heap.size 3 1 v5 (l ++ [c]).length ((l ++ [c]).map (Value.int .i64)) := by
        rw [List.length_append, List.map_append, unhide HM]
        exact ho5
      have HNEW := hide (show RisI w bm w.heap.size n D T v5 x5 from ⟨_, cnt1, l ++ [c], hx5, hco2, by rw [List.length_append]; exact hl2, ho6, fun k hk => by
        obtain ⟨cur, hb⟩ := own_blk ho6 hk
        exact (blk_range hx5 hb).2, hb5⟩)
      have HMS := hide (show x5.rangeLeft bm w.heap.size < wr.rangeLeft bm w.heap.size from by rw [hx5.left_eq, hrg.left_eq]; exact hlt)
      clear hco2 hl2 hnr hlt hrg hx5 hb5 ho6 ho5 hg5 HRA HR1 HXB HCO hen
      go_wp2
      go_roundw
      case rel => exact unhide HNEW
      case measure => exact unhide HMS
end Go.Proofs.YtnfcnpolflfpfaaGreatDoor
