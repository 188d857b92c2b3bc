import Derived.Test.YtaepdekpdiofnaaGreatDoorMg31
import Derived.BigQuiet
import Derived.Test.YtaepdekpdiofnaaGreatDoorMg17
import Derived.Test.YtaepdekpdiofnaaGreatDoorCards
import Derived.Test.YtaepdekpdiofnaaGreatDoorTie
import Derived.ProofKit
import Derived.OpenShut
import Derived.ShutString
import Derived.SizedLaws
import Derived.Deep.DeepHandedRow
import Derived.LaidLaws
import Derived.LaidHandle
import Derived.Lib.LaidTab
import Derived.Deep.Slices
import Derived.Deep.Strs
import Derived.Lib.SmallJoins
import Derived.Test.YtaepdekpdiofnaaGreatDoorMg27
import Derived.Deep.SlicePairs
namespace Go.Proofs.YtaepdekpdiofnaaGreatDoor
open Go.RowKit
/-- The kind of a commit's i-th act, as it is told. -/
def kindC (i : Nat) : Int := if i = 16 ∨ i = 18 ∨ i = 35 ∨ i = 37 then 2 else 1
theorem act_rec (l : List Wr1) (h : l.length ≤ 16) (i : Nat) (hi : i < 16) : (actW (recL (filled l)))[i]? = some (0, 2 + i) := by
  have h16 := filled_len l h
  have e : (actW (recL (filled l)))[i]? = some (0, (((2 + i : Nat) : Int)).toNat) := by simp [actW, recL, h16, hi]
  rw [e, Int.toNat_natCast]
theorem act_fill (l : List Wr1) (h : GoodL l) (i : Nat) (hi : i < 16) : ∃ x, 18 ≤ x ∧ (actW (filled l))[i]? = some (0, x) := by
  have h16 := filled_len l h.len
  have hi' : i < (filled l).length := by omega
  refine ⟨((filled l)[i]).1.toNat, ?_, by simp [actW, hi']⟩
  have hm := List.getElem_mem hi'
  rcases List.mem_append.1 hm with q | q
  · have := h.free _ q
    omega
  · have := List.eq_of_mem_replicate q
    rw [this]
    decide
theorem comA_form (l : List Wr1) : comA l = actW (recL (filled l)) ++ ([(1, 0), (0, 1), (1, 0)] ++ (actW (filled l) ++ [(1, 0), (0, 1), (1, 0)])) := by simp [comA]
/-- The i-th act of a commit. -/
theorem comA_at (l : List Wr1) (h : GoodL l) (i : Nat) (hi : i < 38) : ∃ p, (comA l)[i]? = some p ∧ ∃ y : Nat, tel1 p = [.int .i64 (kindC i), .int .i64 (y : Int)] ∧ (19 ≤ i → i < 35 → 18 ≤ y) ∧ (¬ (19 ≤ i ∧ i < 35) → y = if i < 16 then 2 + i else if i = 17 ∨ i = 36 then 1 else 0) := by
  have h16 := filled_len l h.len
  have e1 : (actW (recL (filled l))).length = 16 := by simp [actW, recL_len, h16]
  have e2 : (actW (filled l)).length = 16 := by simp [actW, h16]
  rw [comA_form]
  by_cases c1 : i < 16
  · refine ⟨(0, 2 + i), by rw [List.getElem?_append_left (by omega)]; exact act_rec l h.len i c1, 2 + i, ?_, by omega, fun _ => by rw [if_pos c1]⟩
    rw [kindC, if_neg (by omega)]; rfl
  · rw [List.getElem?_append_right (by omega), e1]
    by_cases c2 : i < 19
    · rw [List.getElem?_append_left (by simp; omega)]
      obtain q | q | q : i = 16 ∨ i = 17 ∨ i = 18 := by omega
      · subst q; exact ⟨(1, 0), rfl, 0, rfl, by omega, fun _ => rfl⟩
      · subst q; exact ⟨(0, 1), rfl, 1, rfl, by omega, fun _ => rfl⟩
      · subst q; exact ⟨(1, 0), rfl, 0, rfl, by omega, fun _ => rfl⟩
    · rw [List.getElem?_append_right (by simp; omega)]
      have e3 : i - 16 - ([(1, 0), (0, 1), (1, 0)] : List (Nat × Nat)).length = i - 19 := by simp; omega
      rw [e3]
      by_cases c3 : i < 35
      · rw [List.getElem?_append_left (by omega)]
        obtain ⟨x, hx, ex⟩ := act_fill l h (i - 19) (by omega)
        refine ⟨(0, x), ex, x, ?_, fun _ _ => hx, fun q => absurd ⟨by omega, c3⟩ q⟩
        rw [kindC, if_neg (by omega)]; rfl
      · rw [List.getElem?_append_right (by omega), e2]
        obtain q | q | q : i = 35 ∨ i = 36 ∨ i = 37 := by omega
        · subst q; exact ⟨(1, 0), rfl, 0, rfl, by omega, fun _ => rfl⟩
        · subst q; exact ⟨(0, 1), rfl, 1, rfl, by omega, fun _ => rfl⟩
        · subst q; exact ⟨(1, 0), rfl, 0, rfl, by omega, fun _ => rfl⟩
theorem tels_at : ∀ (l : List (Nat × Nat)) (k : Nat) (p : Nat × Nat) (a b : Value), l[k]? = some p → tel1 p = [a, b] → (tels l)[k * 2]? = some a ∧ (tels l)[k * 2 + 1]? = some b
  | q :: r, 0, p, a, b, h, e => by
    simp at h
    subst h
    simp [tels, e]
  | q :: r, k + 1, p, a, b, h, e => by
    have := tels_at r k p a b (by simpa using h) e
    rw [show (k + 1) * 2 = k * 2 + 2 by omega]
    have hl : (tel1 q).length = 2 := tel1_len q
    simp only [tels]
    constructor
    · rw [List.getElem?_append_right (by omega), hl]; simpa using this.1
    · rw [List.getElem?_append_right (by omega), hl, show k * 2 + 2 + 1 - 2 = k * 2 + 1 by omega]; exact this.2
/-- The two commits' acts, as they lie in the trace. -/
theorem trace_at {w : World} {g : Nat} {l1 l2 : List Wr1} (h1 : GoodL l1) (h2 : GoodL l2) (hB : Blk w g (tels (A0 ++ comA l1 ++ comA l2)).toArray 34) (i : Nat) (hi : i < 38) :
    ∃ x y : Nat, w.cell? ⟨g, 4 + i * 2, none⟩ = some (.int .i64 (kindC i)) ∧ w.cell? ⟨g, 4 + i * 2 + 1, none⟩ = some (.int .i64 (x : Int)) ∧ w.cell? ⟨g, 80 + i * 2, none⟩ = some (.int .i64 (kindC i)) ∧ w.cell? ⟨g, 80 + i * 2 + 1, none⟩ = some (.int .i64 (y : Int)) ∧ (19 ≤ i → i < 35 → 18 ≤ x ∧ 18 ≤ y) ∧ (¬ (19 ≤ i ∧ i < 35) → x = y) := by
  obtain ⟨p, hp, x, ex, fx, gx⟩ := comA_at l1 h1 i hi
  obtain ⟨q, hq, y, ey, fy, gy⟩ := comA_at l2 h2 i hi
  have n1 := comA_len l1 h1.len
  have hA : A0.length = 2 := rfl
  have p' : (A0 ++ comA l1 ++ comA l2)[2 + i]? = some p := by
    rw [List.append_assoc, List.getElem?_append_right (by omega), hA, Nat.add_sub_cancel_left, List.getElem?_append_left (by omega)]; exact hp
  have q' : (A0 ++ comA l1 ++ comA l2)[40 + i]? = some q := by
    rw [List.getElem?_append_right (by rw [List.length_append]; omega)]
    have : 40 + i - (A0 ++ comA l1).length = i := by rw [List.length_append]; omega
    rw [this]; exact hq
  obtain ⟨a1, a2⟩ := tels_at _ (2 + i) p _ _ p' ex
  obtain ⟨b1, b2⟩ := tels_at _ (40 + i) q _ _ q' ey
  rw [show (2 + i) * 2 = 4 + i * 2 by omega] at a1 a2
  rw [show (40 + i) * 2 = 80 + i * 2 by omega] at b1 b2
  refine ⟨x, y, by rw [hB.cell]; simpa using a1, by rw [hB.cell]; simpa using a2, by rw [hB.cell]; simpa using b1, by rw [hB.cell]; simpa using b2, fun u v => ⟨fx u v, fy u v⟩, fun u => by rw [gx u, gy u]⟩
def flC (i : Nat) : Nat := (if 16 < i then 1 else 0) + (if 18 < i then 1 else 0) + (if 35 < i then 1 else 0) + (if 37 < i then 1 else 0)
theorem one_le (p : Prop) [Decidable p] : (if p then 1 else 0) ≤ 1 := by split <;> omega
theorem flC_le (k : Nat) : flC k ≤ 4 := by
  have h1 := one_le (16 < k)
  have h2 := one_le (18 < k)
  have h3 := one_le (35 < k)
  have h4 := one_le (37 < k)
  unfold flC
  omega
theorem flC_step (i : Nat) : flC (i + 1) = flC i + (if kindC i = 2 then 1 else 0) := by
  unfold flC kindC
  by_cases h : i = 16 ∨ i = 18 ∨ i = 35 ∨ i = 37
  · rw [if_pos h, if_pos rfl]
    rcases h with h | h | h | h <;> subst h <;> decide
  · have h12 : ¬ ((1 : Int) = 2) := by decide
    rw [if_neg h, if_neg h12]
    have e1 : (16 < i + 1) ↔ (16 < i) := by omega
    have e2 : (18 < i + 1) ↔ (18 < i) := by omega
    have e3 : (35 < i + 1) ↔ (35 < i) := by omega
    have e4 : (37 < i + 1) ↔ (37 < i) := by omega
    simp only [e1, e2, e3, e4, Nat.add_zero]
set_option maxRecDepth 100000 in
set_option maxHeartbeats 4000000 in
theorem shape_walk (pa : Option Addr) (ca : Nat) (ra : List Wr1) (na : Nat) (hna : na = ra.length) (pb : Option Addr) (cb : Nat) (rb : List Wr1) (nb : Nat) (hnb : nb = rb.length) (w : World) (hg : ETy w) (hla : Wls w pa ra) (hlb : Wls w pb rb) (hka : Wok ra) (hkb : Wok rb) (hza : na ≤ 9223372036854775807) (hzb : nb ≤ 9223372036854775807) :
    Calls Tryz.prog 3 #[.slice pa na ca, .slice pb nb cb] w fun e w' => e = .returned (.bool true) ∧ Below w.heap.size w w' := by
  have HAW := hide (awake_any w hg)
  have HG := hide hg
  have HLA := hide (And.intro hla (And.intro hka hza))
  have HLB := hide (And.intro hlb (And.intro hkb hzb))
  have HNA := hide hna
  have HNB := hide hnb
  have G1 := lstF_good ra [] GoodL.nil
  have G2 := lstF_good rb [] GoodL.nil
  obtain ⟨l1, hl1⟩ : ∃ l, lstF [] ra = l := ⟨_, rfl⟩
  obtain ⟨l2, hl2⟩ : ∃ l, lstF [] rb = l := ⟨_, rfl⟩
  rw [hl1] at G1
  rw [hl2] at G2
  have HL1 := hide hl1
  have HL2 := hide hl2
  have HG1 := hide G1
  have HG2 := hide G2
  clear hg hla hlb hka hkb hna hnb G1 G2 hl1 hl2
  go_enter Tryz.func3, Tryz.ntmps3
  go_wp2_with fail
  refine (unhide HAW).mono ?_
  rintro e x1 ⟨rfl, hb1⟩
  have HB1 := hide hb1
  have HST := hide (started_any x1 ((unhide HG).below hb1 (unhide HG).lt))
  clear hb1 HAW
  go_wp2_with fail
  refine (unhide HST).mono ?_
  rintro e x2 ⟨b, jb, rfl, hJ2⟩
  have H2 := hide hJ2
  clear hJ2 HST
  go_wp2_with fail
  refine (traceD (unhide H2).di (by show A0.length ≤ _; decide)).mono ?_
  rintro e x3 ⟨rfl, _, _, hb3⟩
  have H3 := hide ((unhide H2).below hb3)
  rw [show (rs L0 A0).acts.length = 2 from rfl]
  have HB3 := hide ((unhide HB1).trans ((unhide H3).bel.mono (unhide HB1).size))
  clear hb3 H2
  have HLS := hide (listed_any x3 pa ca ra na (unhide HNA) ((unhide HLA).1.below (unhide HB3)) (unhide HLA).2.1 (unhide HLA).2.2)
  go_wp2_with fail
  refine (unhide HLS).mono ?_
  rintro e x4 ⟨q1, c1, rfl, hw1, hb4⟩
  rw [unhide HL1] at hw1 ⊢
  have H4 := hide ((unhide H3).below hb4)
  obtain ⟨n1, hn1⟩ : ∃ n, l1.length = n := ⟨_, rfl⟩
  have HC := hide (commitJ (unhide H4) (by decide) q1 c1 l1 n1 hn1.symm hw1 (Nat.zero_le _) (by show A0.length ≤ _; decide))
  rw [commit_rs L0 A0 1 l1 L0_len (unhide HG1)] at HC
  rw [hn1]
  clear hw1 hb4 HLS H3 hn1
  go_wp2_with fail
  refine (unhide HC).mono ?_
  rintro e x5 ⟨rfl, hJ5⟩
  have H5 := hide (show JI x1 x5 b jb (rs (comL L0 1 l1) (A0 ++ comA l1)) 2 false from hJ5)
  have HB5 := hide ((unhide HB1).trans (hJ5.bel.mono (unhide HB1).size))
  clear hJ5 HC H4
  have HLS := hide (listed_any x5 pb cb rb nb (unhide HNB) ((unhide HLB).1.below (unhide HB5)) (unhide HLB).2.1 (unhide HLB).2.2)
  go_wp2_with fail
  refine (unhide HLS).mono ?_
  rintro e x6 ⟨q2, c2, rfl, hw2, hb6⟩
  rw [unhide HL2] at hw2 ⊢
  have H6 := hide ((unhide H5).below hb6)
  obtain ⟨n2, hn2⟩ : ∃ n, l2.length = n := ⟨_, rfl⟩
  have HC := hide (commitJ (unhide H6) (by decide) q2 c2 l2 n2 hn2.symm hw2 (Nat.zero_le _) (by show (A0 ++ comA l1).length ≤ _; rw [List.length_append, comA_len l1 (unhide HG1).len]; decide))
  rw [commit_rs (comL L0 1 l1) (A0 ++ comA l1) 2 l2 (by rw [comL_len, L0_len]) (unhide HG2)] at HC
  rw [hn2]
  clear hw2 hb6 HLS H5 hn2
  go_wp2_with fail
  refine (unhide HC).mono ?_
  rintro e x7 ⟨rfl, hJ7⟩
  have H7 := hide (show JI x1 x7 b jb (rs (comL (comL L0 1 l1) 2 l2) (A0 ++ comA l1 ++ comA l2)) 3 false from hJ7)
  have hal : (A0 ++ comA l1 ++ comA l2).length = 78 := by rw [List.length_append, List.length_append, comA_len l1 (unhide HG1).len, comA_len l2 (unhide HG2).len]; rfl
  have HTR := hide (traceD (unhide H7).di (by show (A0 ++ comA l1 ++ comA l2).length ≤ _; omega))
  rw [show (rs (comL (comL L0 1 l1) 2 l2) (A0 ++ comA l1 ++ comA l2)).acts = A0 ++ comA l1 ++ comA l2 from rfl, hal] at HTR
  clear hJ7 HC H6 hal
  go_wp2_with fail
  refine (unhide HTR).mono ?_
  rintro e x8 ⟨rfl, hB8, _, hb8⟩
  have HT := hide (fun i hi => trace_at (unhide HG1) (unhide HG2) hB8 i hi)
  have HB8 := hide ((unhide HB1).trans (((unhide H7).bel.trans (hb8.mono (unhide H7).bel.size)).mono (unhide HB1).size))
  obtain ⟨g, hgg⟩ : ∃ g, x7.heap.size = g := ⟨_, rfl⟩
  rw [hgg] at HT ⊢
  clear hB8 hb8 HTR H7 hgg
  go_wp2
  go_loopw [15] (fun i wr => ∃ k d : Nat, k ≤ 38 ∧ i = .int .i64 (k : Int) ∧ wr = x8.drewN d) (fun i _ => 38 - (intOf i).toNat)
  case atStart => exact ⟨0, 0, by omega, rfl, rfl⟩
  case round =>
    obtain ⟨k, d, hk, rfl, rfl⟩ := hrel
    by_cases hk38 : k < 38
    · obtain ⟨x, y, t1, t2, t3, t4, hrun, hno⟩ := unhide HT k hk38
      have u1 : (x8.drewN d).cell? ⟨g, 4 + k * 2, none⟩ = some (.int .i64 (kindC k)) := t1
      have u2 : (x8.drewN d).cell? ⟨g, 4 + k * 2 + 1, none⟩ = some (.int .i64 (x : Int)) := t2
      have u3 : (x8.drewN d).cell? ⟨g, 80 + k * 2, none⟩ = some (.int .i64 (kindC k)) := t3
      have u4 : (x8.drewN d).cell? ⟨g, 80 + k * 2 + 1, none⟩ = some (.int .i64 (y : Int)) := t4
      obtain ⟨xd, hxd⟩ : ∃ q, x8.drewN d = q := ⟨_, rfl⟩
      rw [hxd] at u1 u2 u3 u4 ⊢
      have HXD := hide hxd
      have HKC := hide (show 19 ≤ k → k < 35 → kindC k = 1 from fun u v => by rw [kindC, if_neg (by omega)])
      generalize kindC k = K at *
      have i0 : 0 ≤ (k : Int) := by omega
      have i1 : (k : Int) < 38 := by omega
      clear t1 t2 t3 t4 hxd
      by_cases c19 : 19 ≤ k
      · have j19 : (19 : Int) ≤ (k : Int) := by omega
        by_cases c35 : k < 35
        · have j35 : (k : Int) < 35 := by omega
          obtain ⟨hx, hy⟩ := hrun c19 c35
          have hK := unhide HKC c19 c35
          subst hK
          have hx1 : decide ((x : Int) < 18) = false := by simp; omega
          have hy1 : decide ((y : Int) < 18) = false := by simp; omega
          clear hrun hno HKC
          by_cases hxy : x = y
          · subst hxy
            have e0 : ((x : Int) != (x : Int)) = false := by simp
            go_wp2
            go_quiet (fail)
            go_wp2
            go_roundw
            case rel => exact ⟨k + 1, d + _, by omega, by go_num, by rw [← unhide HXD]; exact drewN_drewN _ _ _⟩
            case measure => simp [intOf]; omega
          · have e0 : ((x : Int) != (y : Int)) = true := by simp; omega
            clear hxy
            go_wp2
            go_quiet (fail)
            go_wp2
            go_roundw
            case rel => exact ⟨k + 1, d + _, by omega, by go_num, by rw [← unhide HXD]; exact drewN_drewN _ _ _⟩
            case measure => simp [intOf]; omega
        · have j35 : ¬ (k : Int) < 35 := by omega
          obtain rfl : x = y := hno (fun q => c35 q.2)
          have e0 : ((x : Int) != (x : Int)) = false := by simp
          have e1 : (K != K) = false := by simp
          clear hrun hno HKC
          go_wp2
          go_quiet (fail)
          go_wp2
          go_roundw
          case rel => exact ⟨k + 1, d + _, by omega, by go_num, by rw [← unhide HXD]; exact drewN_drewN _ _ _⟩
          case measure => simp [intOf]; omega
      · have j19 : ¬ (19 : Int) ≤ (k : Int) := by omega
        obtain rfl : x = y := hno (fun q => c19 q.1)
        have e0 : ((x : Int) != (x : Int)) = false := by simp
        have e1 : (K != K) = false := by simp
        clear hrun hno HKC
        go_wp2
        go_quiet (fail)
        go_wp2
        go_roundw
        case rel => exact ⟨k + 1, d + _, by omega, by go_num, by rw [← unhide HXD]; exact drewN_drewN _ _ _⟩
        case measure => simp [intOf]; omega
    · obtain rfl : k = 38 := by omega
      clear hk38
      have HBD := hide (below_drewN (unhide HB8) d)
      have HTD := hide (show ∀ i, i < 38 → (x8.drewN d).cell? ⟨g, 4 + i * 2, none⟩ = some (.int .i64 (kindC i)) from fun i hi => by obtain ⟨x, y, t1, _⟩ := unhide HT i hi; exact t1)
      generalize x8.drewN d = xd at *
      clear HT
      go_wp2
      go_loopw [17, 18] (fun u i wr => ∃ k : Nat, k ≤ 38 ∧ i = .int .i64 (k : Int) ∧ u = .int .i64 ((flC k : Nat) : Int) ∧ wr = xd) (fun _ i _ => 38 - (intOf i).toNat)
      case atStart => exact ⟨0, by omega, rfl, rfl, rfl⟩
      case round =>
        obtain ⟨k, hk, rfl, rfl, rfl⟩ := hrel
        by_cases hk38 : k < 38
        · have u1 := unhide HTD k hk38
          have hfs := flC_step k
          have hfl := flC_le k
          have i0 : 0 ≤ (k : Int) := by omega
          have i1 : (k : Int) < 38 := by omega
          by_cases hK : kindC k = 2
          · rw [if_pos hK] at hfs
            rw [hK] at u1
            have hfw : IntKind.i64.wrap (((flC k : Nat) : Int) + 1) = ((flC k : Nat) : Int) + 1 := wrapI_eq _ (by omega) (by omega)
            have HFS := hide hfs
            generalize flC k = fk at *
            clear hfs hK
            go_wp2
            go_roundw
            case rel => exact ⟨k + 1, by omega, by go_num, by rw [unhide HFS]; simp, by first | rfl | trivial⟩
            case measure => simp [intOf]; omega
          · rw [if_neg hK] at hfs
            have hKb : (kindC k == 2) = false := by simpa using hK
            have HFS := hide hfs
            generalize flC k = fk at *
            generalize kindC k = K at *
            clear hfs hK
            go_wp2
            go_roundw
            case rel => exact ⟨k + 1, by omega, by go_num, by rw [unhide HFS]; simp, by first | rfl | trivial⟩
            case measure => simp [intOf]; omega
        · obtain rfl : k = 38 := by omega
          have hf4 : ((flC 38 : Nat) : Int) = 4 := rfl
          rw [hf4]
          go_wp2
          go_ret
          exact ⟨rfl, unhide HBD⟩
end Go.Proofs.YtaepdekpdiofnaaGreatDoor

namespace Go.Proofs.YtaepdekpdiofnaaGreatDoor
open Go.ChangeShapes Go.WideShapes Go.ChangeAt Go.RowKit
theorem own : ownKnob Tryz.prog.godebug = none := by kernel_rfl
theorem laidOut : laidOutB Tryz.prog = true := by kernel_rfl
theorem gEt : Tryz.prog.globalNamed "errors.errorType" = some 1 := by kernel_rfl
theorem gRt : (Tryz.prog.cutTypes.find? (·.1 == "internal/reflectlite.rtype")).map (·.2) = some 223 := by kernel_rfl
theorem gOne : ((List.range 261).filter fun t => Tryz.prog.rowNamed t [101, 114, 114, 111, 114]) = [155] := by kernel_rfl
theorem gSize : Tryz.prog.types.size = 261 := by kernel_rfl
def laidL : List (String × DataW Unit) := [("errors.errorType", Rows.laid_errors_errorType)]
theorem wf_I64 {z : Int} (h : (Lit.int .i64 z).wf = true) : I64 z := by
  simpa [I64, Lit.wf, IntKind.min, IntKind.max, IntKind.signed, IntKind.bits] using h
/-- What the row's list gives. -/
theorem ety_of {W : World} (h : laidMetH Tryz.prog laidL W) : ETy W := by
  have h' : laidMet Tryz.prog [] W ∧ handlesMet Tryz.prog laidL W := h
  obtain ⟨name, u, ty, e1, e2, e3, e4, e5⟩ := h'.2 _ (List.mem_singleton.2 rfl)
  have en : name = [101, 114, 114, 111, 114] := (Option.some.inj e1).symm
  subst en
  obtain rfl := Option.some.inj (gRt.symm.trans e2)
  have hm : ty ∈ (List.range 261).filter fun t => Tryz.prog.rowNamed t [101, 114, 114, 111, 114] := List.mem_filter.2 ⟨List.mem_range.2 (by rw [← gSize]; exact e3), e4⟩
  rw [gOne] at hm
  obtain rfl := List.mem_singleton.1 hm
  have hh : typeHandle Tryz.prog 155 = .pointer (some ⟨2, 155, none⟩) := by kernel_rfl
  rw [hh] at e5
  have := World.var?_cell gEt e5 0
  unfold ETy
  simpa using this
/-- A world for the witness: the settled one, the variable's cell laid. -/
noncomputable def laidWorld (os : Os) : World :=
  let w0 := World.holding Tryz.prog os ⟨#[], #[], []⟩
  { w0 with heap := w0.heap.modify 1 fun
      | .cells _ t frozen => .cells #[.iface 223 (.agg #[.pointer (some ⟨2, 155, none⟩)])] t frozen
      | o => o }
end Go.Proofs.YtaepdekpdiofnaaGreatDoor

namespace Go.Proofs.YtaepdekpdiofnaaGreatDoor
open Go.ChangeShapes Go.WideShapes Go.ChangeAt Go.RowKit
theorem weightsAll_mem {H : Type} {P : Program} {e : TypeId} : ∀ {l : List (DataW H)} {d : DataW H}, d ∈ l → ∀ n ∈ d.weights P e, n ∈ DataW.weightsAll P e l
  | d' :: r, d, hd, n, hn => by
    simp only [DataW.weightsAll, List.mem_append]
    rcases List.mem_cons.1 hd with rfl | h
    · exact Or.inl hn
    · exact Or.inr (weightsAll_mem h n hn)
set_option maxRecDepth 100000 in
/-- A list of writes that came in. -/
theorem open_wlist {H : Type} {enc : TypeId × Value → H} {w : World} {base : Nat} {spare : Nat → Bool} {held : Bool} {fuel : Nat} {a : Option Addr} {len cap : Nat} {x : DataW H × List MemPlace} (h : DataW.trod enc Tryz.prog w base spare held fuel 22 [.slice a len cap] = some x)
    (hs : ∀ n ∈ x.1.weights Tryz.prog 22, n ≤ reachBytes) :
    ∃ raw : List Wr1, len = raw.length ∧ Wls w a raw ∧ Wok raw ∧ len ≤ 9223372036854775807 := by
  rcases Deep.open_slice_pairs Tryz.underlying22 Tryz.underlying53 (by kernel_rfl) rfl rfl (by kernel_rfl) (by kernel_rfl) h with ⟨hcs, _⟩ | ⟨ad, ln, cp, m, n, V0, V1, D0, D1, P0, P1, hcs, _, hl, hm, hmm, rfl, hx⟩
  · simp at hcs
    obtain ⟨rfl, rfl, rfl⟩ := hcs
    exact ⟨[], rfl, Wls.nil _ _, fun z hz => (by cases hz), by omega⟩
  · simp at hcs
    obtain ⟨rfl, rfl, rfl⟩ := hcs
    have hlm : len ≤ m := by rw [hmm]; split <;> omega
    have each : ∀ i, i < len → ∃ q : Wr1, w.cell? (ad.add (i * 2)) = some (.int .i64 q.1) ∧ w.cell? (ad.add (i * 2 + 1)) = some (.string q.2) ∧ I64 q.1 ∧ q.2.size ≤ 140737488355328 := by
      intro i hi
      obtain ⟨c0, c1, g0, g1⟩ := hx i (by omega)
      obtain ⟨z0, e0, d0, f0⟩ := DataW.trod_int Tryz.underlying3 g0
      obtain ⟨z1, e1, d1, _⟩ := DataW.trod_string Tryz.underlying9 g1
      simp at e0 e1
      rw [e0] at c0
      rw [e1] at c1
      refine ⟨(z0, z1), c0, c1, wf_I64 f0, ?_⟩
      have hw : z1.data.toList.length ≤ reachBytes := by
        refine hs _ ?_
        simp only [DataW.weights, Tryz.underlying22, List.mem_cons, List.mem_append]
        refine Or.inr (Or.inl (weightsAll_mem (d := .agg [D0 i, D1 i]) (List.mem_map.2 ⟨i, by simpa using hi, rfl⟩) _ ?_))
        simp only [DataW.weights, Tryz.underlying53]
        rw [(Prod.mk.inj d1).1]
        simp [DataW.weightsEach, DataW.weights]
      have e : z1.data.toList.length = z1.size := rfl
      unfold reachBytes at hw
      show z1.size ≤ _
      omega
    obtain ⟨q, hq⟩ := Deep.choose_lt each
    refine ⟨(List.range len).map q, by simp, ?_, ?_, by simp only [maxLen] at hm; omega⟩
    · intro j hj
      have hj' : j < len := by simpa using hj
      obtain ⟨q0, q1, _⟩ := hq j hj'
      obtain ⟨b, off, spot⟩ := ad
      have hspot : spot = none := by simpa [Addr.add] using World.cell?_spot (hq 0 (by omega)).1
      subst hspot
      rw [Addr.add_mid] at q0 q1
      have eg : ((List.range len).map q).getD j wr0 = q j := by simp [List.getD, List.getElem?_map, List.getElem?_range hj']
      rw [eg]
      exact ⟨b, off, rfl, World.block_lt_of_cell? w _ q0, q0, by simpa [Nat.add_assoc] using q1⟩
    · intro y hy
      obtain ⟨i, hi, rfl⟩ := List.mem_map.1 hy
      exact (hq i (by simpa using hi)).2.2
end Go.Proofs.YtaepdekpdiofnaaGreatDoor
