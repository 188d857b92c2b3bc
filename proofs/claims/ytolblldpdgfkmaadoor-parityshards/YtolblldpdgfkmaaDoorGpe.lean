import Derived.Test.YtolblldpdgfkmaaDoorGpd
import Derived.WalkMore
namespace Go.Proofs.YtolblldpdgfkmaaDoor
open Go.RowKit
set_option maxRecDepth 100000
/-- Rows c and t change their places. -/
theorem RR.swap {base : Nat} {eo ei : TypeId} {w : World} {u : Value} {m : Nat} {v : Nat → Value} {C : Nat → List Value} (h : RR base eo ei w u m v C) (hne : ei ≠ eo) (c t : Nat) (hc : c < m) (ht : t < m) (gu cu : Nat) (hu : u = .slice (some ⟨gu, 0, none⟩) m cu) : RR base eo ei ((w.setCell ⟨gu, c, none⟩ (v t)).setCell ⟨gu, t, none⟩ (v c)) u m (fun k => if k = t then v c else if k = c then v t else v k) (fun k => if k = t then C c else if k = c then C t else C k) ∧ w.grownBy ((w.setCell ⟨gu, c, none⟩ (v t)).setCell ⟨gu, t, none⟩ (v c)) (some gu) ∧ (w.setCell ⟨gu, c, none⟩ (v t)).cell? ⟨gu, t, none⟩ ≠ none ∧ (w.setCell ⟨gu, c, none⟩ (v t)).frozen? ⟨gu, t, none⟩ = false := by
  have hgu : u.ownBlock = some gu := by rw [hu]; rfl
  have hr0 := h.row
  rw [hu] at hr0
  obtain ⟨r1, r2⟩ := hr0.stored c (v t)
  obtain ⟨r3, r4⟩ := r1.stored t (v c)
  have inner : ∀ {n : Nat} {y : Value} {xs : List Value}, w.ownsRow base ei 1 y n xs → ((w.setCell ⟨gu, c, none⟩ (v t)).setCell ⟨gu, t, none⟩ (v c)).ownsRow base ei 1 y n xs := fun {n y xs} hy => by
    have k0 : y.ownBlock = none ∨ y.ownBlock ≠ some gu := by
      cases e : y.ownBlock with
      | none => exact .inl rfl
      | some b => exact .inr (fun q => by
          injection q with q
          subst q
          exact own_types hy h.row hne b e hgu)
    exact (hy.kept r2 k0).kept r4 k0
  obtain ⟨g9, e9, c9, f9, _, _⟩ := gr_cell r1 t ht
  obtain rfl : g9 = gu := by injection e9 with e; injection e with e; exact e.symm
  refine ⟨⟨?_, fun k hk => ?_, fun k j hk hj hkj y hy => ?_⟩, r2.trans r4, by rw [c9, List.getElem?_eq_getElem (by simpa using ht)]; simp, f9⟩
  · rw [hu]
    have e : (List.range m).map (fun k => if k = t then v c else if k = c then v t else v k) = (((List.range m).map v).set c (v t)).set t (v c) := by
      apply List.ext_getElem
      · simp
      · intro a b1 b2
        simp only [List.getElem_map, List.getElem_range, List.getElem_set]
        by_cases q : a = t
        · rw [if_pos q, if_pos q.symm]
        · rw [if_neg q, if_neg (Ne.symm q)]
          by_cases q2 : a = c
          · rw [if_pos q2, if_pos q2.symm]
          · rw [if_neg q2, if_neg (Ne.symm q2)]
    rw [e]
    exact r3
  · by_cases e : k = t
    · simp only [if_pos e]
      exact inner (h.own c hc)
    · simp only [if_neg e]
      by_cases e2 : k = c
      · simp only [if_pos e2]
        exact inner (h.own t ht)
      · simp only [if_neg e2]
        exact inner (h.own k hk)
  · have key : ∀ x, x < m → ∃ x', x' < m ∧ (if x = t then v c else if x = c then v t else v x) = v x' ∧ x' = (if x = t then c else if x = c then t else x) := fun x hx => by
      by_cases e : x = t
      · exact ⟨c, hc, by rw [if_pos e], by rw [if_pos e]⟩
      · by_cases e2 : x = c
        · exact ⟨t, ht, by rw [if_neg e, if_pos e2], by rw [if_neg e, if_pos e2]⟩
        · exact ⟨x, hx, by rw [if_neg e, if_neg e2], by rw [if_neg e, if_neg e2]⟩
    obtain ⟨k', hk', ek, ek2⟩ := key k hk
    obtain ⟨j', hj', ej, ej2⟩ := key j hj
    simp only [ek] at hy
    simp only [ej]
    refine h.dis k' j' hk' hj' ?_ y hy
    intro q
    rw [ek2, ej2] at q
    split at q <;> split at q <;> (try split at q) <;> (try split at q) <;> omega
theorem RR.congrW {base : Nat} {eo ei : TypeId} {w : World} {u : Value} {m : Nat} {v x : Nat → Value} {C : Nat → List Value} (h : RR base eo ei w u m v C) (hx : ∀ i, i < m → v i = x i) : RR base eo ei w u m x C :=
  ⟨by
    have e : (List.range m).map v = (List.range m).map x := List.map_congr_left (fun i hi => hx i (List.mem_range.1 hi))
    rw [← e]; exact h.row, fun i hi => by rw [← hx i hi]; exact h.own i hi, fun i j hi hj hij y hy => by rw [← hx j hj]; rw [← hx i hi] at hy; exact h.dis i j hi hj hij y hy⟩
theorem iso_gst {n c t : Nat} (A : Nat → Nat → G) {i : Nat} (hi : i < n) : iso n c (swp c t A (A t)) i = gst c t A i := by
  rw [← elm_gst (t := t) A hi]
  unfold iso
  congr 1
  funext i
  by_cases e : i = c
  · show (if i = c then (fun k => swp c t A (A t) c k * (swp c t A (A t) c c).inv) else swp c t A (A t) i) = swp c t A (fun k => A t k * (A t c).inv) i
    rw [if_pos e]
    unfold swp
    rw [if_pos rfl, if_pos e]
  · show (if i = c then (fun k => swp c t A (A t) c k * (swp c t A (A t) c c).inv) else swp c t A (A t) i) = swp c t A (fun k => A t k * (A t c).inv) i
    rw [if_neg e]
    unfold swp
    rw [if_neg e, if_neg e]
theorem own_made (w : World) (base l c : Nat) (hl : l ≤ c) (hc : c ≤ maxLen) (hb : base ≤ w.heap.size) : (w.alloc (.cells ((List.replicate c (0 : Int)).map (Value.int .u8)).toArray 5)).ownsRow base 5 1 (.slice (some ⟨w.heap.size, 0, none⟩) l c) l (gW l (fun _ => g0)) := by
  refine ⟨by rw [gW_len]; omega, .inr ⟨w.heap.size, c, _, rfl, hb, Blk.new w 5 _, hl, hc, by simp, ?_⟩⟩
  have e : gW l (fun _ => g0) = List.replicate l (.int .u8 0) := by
    refine List.eq_replicate_iff.2 ⟨gW_len l _, fun x hx => ?_⟩
    obtain ⟨j, _, rfl⟩ := List.mem_map.1 hx
    rfl
  rw [e, Nat.mul_one]
  simp [List.take_replicate, Nat.min_eq_left hl]
/-- what solve answers -/
def SlvQ (b n : Nat) (A : Nat → Nat → G) (w : World) (e : Ending) (w' : World) : Prop := ∃ ok B, Ga n 0 A ok B ∧ Below b w w' ∧ (ok = true → ∃ x, e = .returned (.tuple #[x, .bool true]) ∧ w'.ownsRow w.heap.size 5 1 x n (gW n (fun i => B i n))) ∧ (ok = false → e = .returned (.tuple #[.slice none 0 0, .bool false]))
/-- the elements that have been laid down -/
def fnd (k : Nat) (F : Nat → G) : Nat → G := fun i => if i < k then F i else g0
theorem fnd_set (n k : Nat) (F : Nat → G) : (gW n (fnd k F)).set k (.int .u8 ((F k).v : Int)) = gW n (fnd (k + 1) F) := by
  rw [gW_set]
  refine gW_congr (fun q _ => ?_)
  unfold fnd
  by_cases e1 : q = k
  · rw [if_pos e1, if_pos (by omega), e1]
  · rw [if_neg e1]
    by_cases e2 : q < k
    · rw [if_pos e2, if_pos (by omega)]
    · rw [if_neg e2, if_neg (by omega)]
set_option maxHeartbeats 8000000 in
theorem psolve_any (w : World) (b n cu : Nat) (pu : Option Addr) (v : Nat → Value) (A : Nat → Nat → G) (hn : n ≤ 24) (hR : RR b 51 5 w (.slice pu n cu) n v (fun i => gW (n + 1) (A i))) (hB : b ≤ w.heap.size) : Calls Tryd.prog 58 #[.slice pu n cu] w (SlvQ b n A w) := by
  have HR0 := hide (And.intro hR hB)
  clear hR
  go_enter Tryd.func58, Tryd.ntmps58
  go_wp2
  go_step3
  go_wp2
  go_step3
  go_wp2
  go_loopw [11] (fun i wr => ∃ (c : Nat) (vx : Nat → Value) (B : Nat → Nat → G), c ≤ n ∧ i = .int .i64 (c : Int) ∧ Hid (RR b 51 5 wr (.slice pu n cu) n vx (fun i => gW (n + 1) (B i)) ∧ Below b w wr ∧ ∀ ok C, Ga n c B ok C → Ga n 0 A ok C)) (fun i _ => n - (intOf i).toNat)
  case atStart => exact ⟨0, v, A, by omega, rfl, hide ⟨(unhide HR0).1, Below.refl _ _, fun _ _ h => h⟩⟩
  case round =>
  obtain ⟨c, vx, B, hc, rfl, HB⟩ := hrel
  obtain ⟨wc, rfl⟩ : ∃ q, q = wr := ⟨_, rfl⟩
  by_cases hcn : c < n
  case neg =>
    obtain rfl : c = n := by omega
    have hcn' : ¬ (c : Int) < (c : Int) := by omega
    have HG := hide (show Ga c 0 A true B from (unhide HB).2.2 _ _ (Ga.done B))
    have hmk := run_make_u8 c c (Nat.le_refl _) (by omega) wc
    have hbs := (unhide HB).2.1.size
    obtain ⟨wm, hwm⟩ : ∃ q, wc.alloc (.cells ((List.replicate c (0 : Int)).map (Value.int .u8)).toArray 5) = q := ⟨_, rfl⟩
    have HM := hide (show Below wc.heap.size wc wm ∧ wm.ownsRow wc.heap.size 5 1 (.slice (some ⟨wc.heap.size, 0, none⟩) c c) c (gW c (fnd 0 (fun i => B i c))) from by
      subst hwm
      refine ⟨(Below.refl _ _).alloc (Nat.le_refl _) _, ?_⟩
      have h := own_made wc wc.heap.size c c (Nat.le_refl _) (by unfold maxLen; omega) (Nat.le_refl _)
      rw [gW_congr (S := fnd 0 (fun i => B i c)) (fun q _ => by unfold fnd; rw [if_neg (by omega)])] at h
      exact h)
    rw [hwm] at hmk
    clear hwm
    obtain ⟨gf, hgf⟩ : ∃ q, wc.heap.size = q := ⟨_, rfl⟩
    rw [hgf] at hmk HM hbs
    have HGF := hide hgf
    clear hgf
    go_wp2
    go_loopw [52] (fun i wr => ∃ k : Nat, k ≤ c ∧ i = .int .i64 (k : Int) ∧ Hid (Below gf wc wr ∧ wr.ownsRow gf 5 1 (.slice (some ⟨gf, 0, none⟩) c c) c (gW c (fnd k (fun i => B i c))))) (fun i _ => c - (intOf i).toNat)
    case atStart => exact ⟨0, by omega, rfl, HM⟩
    case round =>
    obtain ⟨k, hk, rfl, HK⟩ := hrel
    obtain ⟨wk, rfl⟩ : ∃ q, q = wr := ⟨_, rfl⟩
    clear HM hmk
    by_cases hkn : k < c
    case neg =>
      obtain rfl : k = c := by omega
      have hkn' : ¬ (k : Int) < (k : Int) := by omega
      have HE := hide (show SlvQ b k A w (.returned (.tuple #[.slice (some ⟨gf, 0, none⟩) k k, .bool true])) wk from ⟨true, B, unhide HG, (unhide HB).2.1.trans ((unhide HK).1.mono (Nat.le_trans hB hbs)), fun _ => ⟨_, rfl, by
        have h := (unhide HK).2
        rw [gW_congr (R := fnd k (fun i => B i k)) (S := fun i => B i k) (fun q hq => if_pos hq)] at h
        exact gr_mono h hbs⟩, fun h => by cases h⟩)
      go_wp2
      (try rw [Exit.noGoto_ret])
      go_ret2
      exact unhide HE
    have hkn' : (k : Int) < (c : Int) := by omega
    have hRk := (unhide HB).1.below (by have h := (unhide HK).1; rw [← unhide HGF] at h; exact h)
    obtain ⟨gu, rfl, hck, _, hgu1, hgu2⟩ := hRk.at k hkn
    have hrk := hRk.own k hkn
    rw [gW_len] at hrk
    obtain ⟨pk, ck, hvk, _⟩ := gr_form hrk
    rw [hvk] at hrk hck
    obtain ⟨gk, rfl, hcn2, _, hgk1, hgk2⟩ := gr_cell hrk c (by omega)
    rw [gW_at _ (by omega : c < c + 1)] at hcn2
    obtain ⟨gf2, ef, hcf, hff, _, _⟩ := gr_cell (unhide HK).2 k hkn
    obtain rfl : gf2 = gf := by injection ef with e; injection e with e; exact e.symm
    rw [gW_at _ hkn] at hcf
    have hc1 : (c : Int) < ((c + 1 : Nat) : Int) := by omega
    have hc2 : (c : Int) < (c : Int) + 1 := by omega
    have HP := hide (show Below gf2 wc (wk.setCell ⟨gf2, k, none⟩ (.int .u8 ((B k c).v : Int))) ∧ (wk.setCell ⟨gf2, k, none⟩ (.int .u8 ((B k c).v : Int))).ownsRow gf2 5 1 (.slice (some ⟨gf2, 0, none⟩) c c) c (gW c (fnd (k + 1) (fun i => B i c))) from by
      have r := (unhide HK).2.stored k (.int .u8 ((B k c).v : Int))
      exact ⟨(unhide HK).1.setCell (Nat.le_refl _) _, by rw [← fnd_set]; exact r.1⟩)
    obtain ⟨bv, hbv⟩ : ∃ q, (B k c).v = q := ⟨_, rfl⟩
    rw [hbv] at hcn2 HP
    clear hbv hrk hvk hRk ef HK
    go_wp2
    go_roundw
    case rel => exact ⟨k + 1, by omega, by go_num, HP⟩
    case measure => simp [intOf] <;> omega
  have hcn' : (c : Int) < (n : Int) := by omega
  go_wp2
  go_loopw [5] (fun i wr => ∃ t : Nat, c ≤ t ∧ t ≤ n ∧ i = .int .i64 (t : Int) ∧ Hid (∀ i, c ≤ i → i < t → B i c = g0) ∧ wr = wc) (fun i _ => n - (intOf i).toNat)
  case atStart => exact ⟨c, Nat.le_refl _, by omega, rfl, hide (fun i h1 h2 => absurd h1 (by omega)), rfl⟩
  case round =>
  obtain ⟨t, hct, ht, rfl, HZ, hw⟩ := hrel
  subst wr
  by_cases htn : t < n
  case neg =>
    obtain rfl : t = n := by omega
    have htn' : ¬ (t : Int) < (t : Int) := by omega
    have HE := hide (show SlvQ b t A w (.returned (.tuple #[.slice none 0 0, .bool false])) wc from ⟨false, B, (unhide HB).2.2 _ _ (Ga.fail c B hcn (unhide HZ)), (unhide HB).2.1, fun h => (by cases h), fun _ => rfl⟩)
    go_wp2
    (try rw [Exit.noGoto_ret])
    go_ret2
    exact unhide HE
  have htn' : (t : Int) < (n : Int) := by omega
  obtain ⟨gu, rfl, hcgt, _, hgu1, hgu2⟩ := (unhide HB).1.at t htn
  have hrt := (unhide HB).1.own t htn
  rw [gW_len] at hrt
  obtain ⟨pt, ct, hvt, _⟩ := gr_form hrt
  rw [hvt] at hrt hcgt
  obtain ⟨gt, rfl, hctc, _, hgt1, hgt2⟩ := gr_cell hrt c (by omega)
  rw [gW_at _ (by omega : c < n + 1)] at hctc
  have hc1 : (c : Int) < ((n + 1 : Nat) : Int) := by omega
  have hc2 : (c : Int) < (n : Int) + 1 := by omega
  by_cases hz : (B t c).v = 0
  case pos =>
    have HZ2 := hide (show ∀ i, c ≤ i → i < t + 1 → B i c = g0 from fun i h1 h2 => by
      by_cases e : i = t
      · rw [e]; exact v_zero.1 hz
      · exact unhide HZ i h1 (by omega))
    rw [hz] at hctc
    simp only [Int.cast_ofNat_Int] at hctc
    clear hz hrt hvt
    go_wp2
    go_roundw
    case rel => exact ⟨t + 1, by omega, by omega, by go_num, HZ2, by first | rfl | trivial⟩
    case measure => simp [intOf] <;> omega
  have hz' : (((B t c).v : Int) != 0) = true := by simp; omega
  obtain ⟨gu9, eu, hcgc, hfgc, _, _⟩ := (unhide HB).1.at c hcn
  obtain rfl : gu9 = gu := by injection eu with e; injection e with e; exact e.symm
  have hrc := (unhide HB).1.own c hcn
  rw [gW_len] at hrc
  obtain ⟨pc, cc, hvc, _⟩ := gr_form hrc
  rw [hvc] at hcgc
  have hd : RR b 51 5 wc.drew (.slice (some ⟨gu9, 0, none⟩) n cu) n vx (fun i => gW (n + 1) (B i)) := (unhide HB).1.below ((Below.refl _ wc).drew)
  obtain ⟨s1, s2, s3, s4⟩ := hd.swap (by decide) c t hcn htn gu9 cu rfl
  have hbs := (unhide HB).2.1.size
  rw [hvt, hvc] at s1 s2
  rw [hvt] at s3 s4
  obtain ⟨z0, hz0⟩ := Option.ne_none_iff_exists'.1 s3
  have HR2 := hide (show RR b 51 5 ((wc.drew.setCell ⟨gu9, c, none⟩ (.slice (some ⟨gt, 0, none⟩) (n + 1) ct)).setCell ⟨gu9, t, none⟩ (.slice pc (n + 1) cc)) (.slice (some ⟨gu9, 0, none⟩) n cu) n (fun k => if k = t then .slice pc (n + 1) cc else if k = c then .slice (some ⟨gt, 0, none⟩) (n + 1) ct else vx k) (fun i => gW (n + 1) (swp c t B (B t) i)) ∧ Below b w ((wc.drew.setCell ⟨gu9, c, none⟩ (.slice (some ⟨gt, 0, none⟩) (n + 1) ct)).setCell ⟨gu9, t, none⟩ (.slice pc (n + 1) cc)) from ⟨s1.congr (fun i _ => by
    unfold swp
    by_cases e1 : i = t
    · rw [if_pos e1]
      by_cases e2 : i = c
      · rw [if_pos e2, ← e1, e2]
      · rw [if_neg e2, if_pos e1]
    · rw [if_neg e1]
      by_cases e2 : i = c
      · rw [if_pos e2, if_pos e2]
      · rw [if_neg e2, if_neg e2, if_neg e1]), (unhide HB).2.1.drew.grown s2 (Nat.le_trans hB hbs) (fun q hq => by injection hq with hq; omega)⟩)
  obtain ⟨w2, hw2⟩ : ∃ q, (wc.drew.setCell ⟨gu9, c, none⟩ (.slice (some ⟨gt, 0, none⟩) (n + 1) ct)).setCell ⟨gu9, t, none⟩ (.slice pc (n + 1) cc) = q := ⟨_, rfl⟩
  rw [hw2] at HR2
  have HW2 := hide hw2
  have hz1 : (wc.setCell ⟨gu9, c, none⟩ (.slice (some ⟨gt, 0, none⟩) (n + 1) ct)).cell? ⟨gu9, t, none⟩ = some z0 := hz0
  have hz2 : (wc.setCell ⟨gu9, c, none⟩ (.slice (some ⟨gt, 0, none⟩) (n + 1) ct)).frozen? ⟨gu9, t, none⟩ = false := s4
  have hcd : wc.drew.cell? ⟨gu9, c, none⟩ = some (.slice pc (n + 1) cc) := hcgc
  have hfd : wc.drew.frozen? ⟨gu9, c, none⟩ = false := hfgc
  have htd : wc.drew.cell? ⟨gu9, t, none⟩ = some (.slice (some ⟨gt, 0, none⟩) (n + 1) ct) := hcgt
  obtain ⟨v2, hv2⟩ : ∃ q : Nat → Value, (fun k => if k = t then .slice pc (n + 1) cc else if k = c then .slice (some ⟨gt, 0, none⟩) (n + 1) ct else vx k) = q := ⟨_, rfl⟩
  rw [hv2] at HR2
  have HIS := hide (isol_any w2 b n c cu (some ⟨gu9, 0, none⟩) v2 (swp c t B (B t)) hn hcn (unhide HR2).1 (Nat.le_trans hB (unhide HR2).2.size))
  have HNX := hide (show ∀ W, RR b 51 5 W (.slice (some ⟨gu9, 0, none⟩) n cu) n v2 (fun i => gW (n + 1) (iso n c (swp c t B (B t)) i)) → Below b w2 W → RR b 51 5 W (.slice (some ⟨gu9, 0, none⟩) n cu) n v2 (fun i => gW (n + 1) (gst c t B i)) ∧ Below b w W ∧ ∀ ok C, Ga n (c + 1) (gst c t B) ok C → Ga n 0 A ok C from fun W h1 h2 => ⟨h1.congr (fun i hi => by rw [iso_gst B hi]), (unhide HR2).2.trans h2, fun ok C hg => (unhide HB).2.2 ok C (Ga.step c t B ok C hcn hct htn (fun e => hz (v_zero.2 e)) hg)⟩)
  obtain ⟨bv, hbv⟩ : ∃ q, (B t c).v = q := ⟨_, rfl⟩
  rw [hbv] at hctc hz'
  clear hz hbv hrt hvt hrc hvc hd s1 s2 s3 hw2 hv2 eu HR2 HZ hcgc hfgc
  have i0 : 0 ≤ (c : Int) := by omega
  have i1 : 0 ≤ (t : Int) := by omega
  go_wp2
  refine wp_region_held_drew (S := fun _ => True) (by kernel_rfl) trivial ?_
  intro hS
  refine wpAnyH_takeD 0 (some 29) (.slice (some ⟨gu9, 0, none⟩) n cu) rfl rfl (by kernel_rfl) (by kernel_rfl) (by kernel_rfl) (fun _ _ _ h => h) (Or.inl ⟨by rfl, fun w hSw => by clear hSw; go_simp; try (intro hbad; omega)⟩) hS ?_
  simp only [Act.put, List.setIfInBounds_toArray, List.set_cons_zero, List.set_cons_succ]
  refine wpAnyH_takeD 1 (some 30) (.int .i64 (c : Int)) rfl rfl (by kernel_rfl) (by kernel_rfl) (by kernel_rfl) (fun _ _ _ h => h) (Or.inl ⟨by rfl, fun w hSw => by clear hSw; go_simp; try (intro hbad; omega)⟩) hS ?_
  simp only [Act.put, List.setIfInBounds_toArray, List.set_cons_zero, List.set_cons_succ]
  refine wpAnyH_takeD 2 (some 31) (.slice (some ⟨gu9, 0, none⟩) n cu) rfl rfl (by kernel_rfl) (by kernel_rfl) (by kernel_rfl) (fun _ _ _ h => h) (Or.inl ⟨by rfl, fun w hSw => by clear hSw; go_simp; try (intro hbad; omega)⟩) hS ?_
  simp only [Act.put, List.setIfInBounds_toArray, List.set_cons_zero, List.set_cons_succ]
  refine wpAnyH_takeD 3 (some 32) (.int .i64 (t : Int)) rfl rfl (by kernel_rfl) (by kernel_rfl) (by kernel_rfl) (fun _ _ _ h => h) (Or.inl ⟨by rfl, fun w hSw => by clear hSw; go_simp; try (intro hbad; omega)⟩) hS ?_
  simp only [Act.put, List.setIfInBounds_toArray, List.set_cons_zero, List.set_cons_succ]
  refine wpAnyH_takeD 4 (some 33) (.slice (some ⟨gu9, 0, none⟩) n cu) rfl rfl (by kernel_rfl) (by kernel_rfl) (by kernel_rfl) (fun _ _ _ h => h) (Or.inl ⟨by rfl, fun w hSw => by clear hSw; go_simp; try (intro hbad; omega)⟩) hS ?_
  simp only [Act.put, List.setIfInBounds_toArray, List.set_cons_zero, List.set_cons_succ]
  refine wpAnyH_takeD 5 (some 34) (.int .i64 (t : Int)) rfl rfl (by kernel_rfl) (by kernel_rfl) (by kernel_rfl) (fun _ _ _ h => h) (Or.inl ⟨by rfl, fun w hSw => by clear hSw; go_simp; try (intro hbad; omega)⟩) hS ?_
  simp only [Act.put, List.setIfInBounds_toArray, List.set_cons_zero, List.set_cons_succ]
  refine wpAnyH_takeD 6 (some 35) (.pointer (some ⟨gu9, t, none⟩)) rfl rfl (by kernel_rfl) (by kernel_rfl) (by kernel_rfl) (fun _ _ _ h => h) (Or.inl ⟨by rfl, fun w hSw => by clear hSw; go_simp; try (intro hbad; omega)⟩) hS ?_
  simp only [Act.put, List.setIfInBounds_toArray, List.set_cons_zero, List.set_cons_succ]
  refine wpAnyH_takeD 8 (some 37) (.slice (some ⟨gu9, 0, none⟩) n cu) rfl rfl (by kernel_rfl) (by kernel_rfl) (by kernel_rfl) (fun _ _ _ h => h) (Or.inl ⟨by rfl, fun w hSw => by clear hSw; go_simp; try (intro hbad; omega)⟩) hS ?_
  simp only [Act.put, List.setIfInBounds_toArray, List.set_cons_zero, List.set_cons_succ]
  refine wpAnyH_takeD 9 (some 38) (.int .i64 (c : Int)) rfl rfl (by kernel_rfl) (by kernel_rfl) (by kernel_rfl) (fun _ _ _ h => h) (Or.inl ⟨by rfl, fun w hSw => by clear hSw; go_simp; try (intro hbad; omega)⟩) hS ?_
  simp only [Act.put, List.setIfInBounds_toArray, List.set_cons_zero, List.set_cons_succ]
  refine wpAnyH_takeD 10 (some 39) (.pointer (some ⟨gu9, c, none⟩)) rfl rfl (by kernel_rfl) (by kernel_rfl) (by kernel_rfl) (fun _ _ _ h => h) (Or.inl ⟨by rfl, fun w hSw => by clear hSw; go_simp; try (intro hbad; omega)⟩) hS ?_
  simp only [Act.put, List.setIfInBounds_toArray, List.set_cons_zero, List.set_cons_succ]
  refine wpAnyH_ready (rs := [7, 11]) (by kernel_rfl) (by simp) ?_
  refine AllReadyH.cons rfl (fun K hK => ?_) (AllReadyH.cons rfl (fun K hK => ?_) AllReadyH.nil)
  · simp only [List.getElem_toArray, List.getElem_cons_succ, List.getElem_cons_zero]
    go_simp
    refine hK.out _ _ trivial (fun hS => ?_)
    clear hK K
    refine wpAnyH_ready (rs := [11]) (by kernel_rfl) (by simp) ?_
    refine AllReadyH.cons rfl (fun K hK => ?_) AllReadyH.nil
    simp only [List.getElem_toArray, List.getElem_cons_succ, List.getElem_cons_zero]
    go_simp
    refine hK.out _ _ trivial (fun hS => ?_)
    clear hK K
    refine wpAnyH_takeD 12 (some 41) (.pointer (some ⟨gu9, c, none⟩)) rfl rfl (by kernel_rfl) (by kernel_rfl) (by kernel_rfl) (fun _ _ _ h => h) (Or.inl ⟨by rfl, fun w hSw => by clear hSw; go_simp; try (intro hbad; omega)⟩) hS ?_
    simp only [Act.put, List.setIfInBounds_toArray, List.set_cons_zero, List.set_cons_succ]
    refine wpAnyH_ready (rs := [13]) (by kernel_rfl) (by simp) ?_
    refine AllReadyH.cons rfl (fun K hK => ?_) AllReadyH.nil
    simp only [List.getElem_toArray, List.getElem_cons_succ, List.getElem_cons_zero]
    go_simp
    refine hK.out _ _ trivial (fun hS => ?_)
    clear hK K
    refine wpAnyH_takeD 14 (some 42) (.pointer (some ⟨gu9, t, none⟩)) rfl rfl (by kernel_rfl) (by kernel_rfl) (by kernel_rfl) (fun _ _ _ h => h) (Or.inl ⟨by rfl, fun w hSw => by clear hSw; go_simp; try (intro hbad; omega)⟩) hS ?_
    simp only [Act.put, List.setIfInBounds_toArray, List.set_cons_zero, List.set_cons_succ]
    refine wpAnyH_ready (rs := [15]) (by kernel_rfl) (by simp) ?_
    refine AllReadyH.cons rfl (fun K hK => ?_) AllReadyH.nil
    simp only [List.getElem_toArray, List.getElem_cons_succ, List.getElem_cons_zero]
    go_simp
    refine hK.out _ _ trivial (fun hS => ?_)
    clear hK K
    refine wpAnyH_done (by kernel_rfl) ?_ _
    rw [show ((wc.setCell ⟨gu9, c, none⟩ (.slice (some ⟨gt, 0, none⟩) (n + 1) ct)).setCell ⟨gu9, t, none⟩ (.slice pc (n + 1) cc)).drew = w2 from unhide HW2]
    go_wp2_with fail
    refine (unhide HIS).mono ?_
    rintro e w9 ⟨rfl, h1, h2⟩
    have HN := hide (unhide HNX _ h1 h2)
    clear h1 h2 HNX HIS
    go_wp2
    go_roundw
    case rel => exact ⟨c + 1, v2, _, by omega, by go_num, HN⟩
    case measure => simp [intOf] <;> omega
  · simp only [List.getElem_toArray, List.getElem_cons_succ, List.getElem_cons_zero]
    go_simp
    refine hK.out _ _ trivial (fun hS => ?_)
    clear hK K
    refine wpAnyH_ready (rs := [7]) (by kernel_rfl) (by simp) ?_
    refine AllReadyH.cons rfl (fun K hK => ?_) AllReadyH.nil
    simp only [List.getElem_toArray, List.getElem_cons_succ, List.getElem_cons_zero]
    go_simp
    refine hK.out _ _ trivial (fun hS => ?_)
    clear hK K
    refine wpAnyH_takeD 12 (some 41) (.pointer (some ⟨gu9, c, none⟩)) rfl rfl (by kernel_rfl) (by kernel_rfl) (by kernel_rfl) (fun _ _ _ h => h) (Or.inl ⟨by rfl, fun w hSw => by clear hSw; go_simp; try (intro hbad; omega)⟩) hS ?_
    simp only [Act.put, List.setIfInBounds_toArray, List.set_cons_zero, List.set_cons_succ]
    refine wpAnyH_ready (rs := [13]) (by kernel_rfl) (by simp) ?_
    refine AllReadyH.cons rfl (fun K hK => ?_) AllReadyH.nil
    simp only [List.getElem_toArray, List.getElem_cons_succ, List.getElem_cons_zero]
    go_simp
    refine hK.out _ _ trivial (fun hS => ?_)
    clear hK K
    refine wpAnyH_takeD 14 (some 42) (.pointer (some ⟨gu9, t, none⟩)) rfl rfl (by kernel_rfl) (by kernel_rfl) (by kernel_rfl) (fun _ _ _ h => h) (Or.inl ⟨by rfl, fun w hSw => by clear hSw; go_simp; try (intro hbad; omega)⟩) hS ?_
    simp only [Act.put, List.setIfInBounds_toArray, List.set_cons_zero, List.set_cons_succ]
    refine wpAnyH_ready (rs := [15]) (by kernel_rfl) (by simp) ?_
    refine AllReadyH.cons rfl (fun K hK => ?_) AllReadyH.nil
    simp only [List.getElem_toArray, List.getElem_cons_succ, List.getElem_cons_zero]
    go_simp
    refine hK.out _ _ trivial (fun hS => ?_)
    clear hK K
    refine wpAnyH_done (by kernel_rfl) ?_ _
    rw [show ((wc.setCell ⟨gu9, c, none⟩ (.slice (some ⟨gt, 0, none⟩) (n + 1) ct)).setCell ⟨gu9, t, none⟩ (.slice pc (n + 1) cc)).drew = w2 from unhide HW2]
    go_wp2_with fail
    refine (unhide HIS).mono ?_
    rintro e w9 ⟨rfl, h1, h2⟩
    have HN := hide (unhide HNX _ h1 h2)
    clear h1 h2 HNX HIS
    go_wp2
    go_roundw
    case rel => exact ⟨c + 1, v2, _, by omega, by go_num, HN⟩
    case measure => simp [intOf] <;> omega
end Go.Proofs.YtolblldpdgfkmaaDoor
