import Derived.Test.YtbpcgephicmhhaaGreatDoorMg30
namespace Go.Proofs.YtbpcgephicmhhaaGreatDoor
open Go.RowKit Go.Maps Go.Sort Go.Shelf
set_option maxRecDepth 100000
theorem posV_zero (f : Nat → Nat × Nat) (a : Nat) : ∀ n, (∀ k, k < n → a < (f k).1) → posV f a n = 0
  | 0, _ => rfl
  | n + 1, h => by
    unfold posV
    rw [if_pos (h n (by omega))]
    exact posV_zero f a n (fun k hk => h k (by omega))
theorem with_front (r : Rc) (a b : Nat) (h : ∀ k, k < r.v.length → a < (r.at k).1) : r.with a b = ⟨r.th, r.q, r.c, (a, b) :: r.v⟩ := by
  have e : (List.range (r.v.length + 1)).map (addF r.at r.v.length a b) = (a, b) :: r.v := by
    apply List.ext_getElem?
    intro i
    rw [List.getElem?_map]
    by_cases hi : i < r.v.length + 1
    · rw [List.getElem?_range hi]
      unfold addF
      rw [posV_zero _ _ _ h]
      cases i with
      | zero => rfl
      | succ k =>
        show some (ups (shf r.at 0) 0 (a, b) (k + 1)) = r.v[k]?
        rw [ups_other _ _ (by omega)]
        unfold shf
        rw [if_neg (by omega)]
        show some (r.at k) = _
        unfold Rc.at
        rw [List.getD_eq_getElem?_getD, List.getElem?_eq_getElem (by omega)]
        rfl
    · rw [List.getElem?_eq_none (by simp; omega), List.getElem?_eq_none (by simp; omega)]
      rfl
  unfold Rc.with
  rw [e]
/-- The volumes from the j-th on of n. -/
def vlD (f : Nat → Nat × Nat) (n j : Nat) : List (Nat × Nat) := (List.range (n - j)).map (fun i => f (j + i))
theorem vlD_len (f : Nat → Nat × Nat) (n j : Nat) : (vlD f n j).length = n - j := by simp [vlD]
theorem vlD_at (f : Nat → Nat × Nat) (n j i : Nat) (h : i < n - j) : (vlD f n j).getD i (0, 0) = f (j + i) := by
  unfold vlD
  rw [List.getD_eq_getElem?_getD, List.getElem?_map, List.getElem?_range h]
  rfl
theorem vlD_cons (f : Nat → Nat × Nat) (n k : Nat) (h : k < n) : f k :: vlD f n (k + 1) = vlD f n k := by
  unfold vlD
  rw [show n - k = (n - (k + 1)) + 1 by omega, List.range_succ_eq_map, List.map_cons, List.map_map]
  congr 1
  apply List.map_congr_left
  intro i _
  show f (k + 1 + i) = f (k + (i + 1))
  rw [show k + 1 + i = k + (i + 1) by omega]
theorem vlD_nil (f : Nat → Nat × Nat) (n : Nat) : vlD f n n = [] := by simp [vlD]
theorem numB0_1 : numB 0 1 = List.replicate 1 0 := by decide
theorem numB0_4 : numB 0 4 = List.replicate 4 0 := by decide
theorem vF_zeros (f h : Nat → Nat × Nat) (n : Nat) (e1 : ∀ k, k < n → h k = f k) (e2 : ∀ k, n ≤ k → h k = (0, 0)) : ∀ j, vF h (n + j) = vF f n ++ List.replicate (5 * j) 0
  | 0 => by
    rw [Nat.add_zero, Nat.mul_zero, List.replicate_zero, List.append_nil]
    have : ∀ k, k ≤ n → vF h k = vF f k := by
      intro k
      induction k with
      | zero => intro _; rfl
      | succ k ih => intro hk; rw [vF, vF, ih (by omega), e1 k (by omega)]
    exact this n (Nat.le_refl _)
  | j + 1 => by
    rw [show n + (j + 1) = (n + j) + 1 by omega, vF, vF_zeros f h n e1 e2 j, e2 (n + j) (by omega)]
    show ((vF f n ++ List.replicate (5 * j) 0) ++ numB 0 1) ++ numB 0 4 = _
    rw [numB0_1, numB0_4, List.append_assoc, List.append_assoc, List.replicate_append_replicate, List.replicate_append_replicate, show 5 * (j + 1) = 5 * j + (1 + 4) by omega]
/-- The body that the law writes. -/
theorem bd_law (q c n : Nat) (f : Nat → Nat × Nat) (hn : n ≤ 8) : bdG 1 q c n f n ++ List.replicate (40 - 5 * n) 0 = bdL ⟨true, q, c, vlD f n 0⟩ := by
  rw [← bdF_all]
  have hl : (vlD f n 0).length = n := by rw [vlD_len]; rfl
  have e := vF_zeros f (Rc.at ⟨true, q, c, vlD f n 0⟩) n (fun k hk => by
    show (vlD f n 0).getD k (0, 0) = f k
    rw [vlD_at f n 0 k (by omega), Nat.zero_add]) (fun k hk => Rc.at_ge _ _ (by show (vlD f n 0).length ≤ k; omega)) (8 - n)
  rw [show n + (8 - n) = 8 by omega, show 5 * (8 - n) = 40 - 5 * n by omega] at e
  unfold bdF bdG
  rw [e, show ((Rc.v ⟨true, q, c, vlD f n 0⟩).length) = n from hl]
  simp [mkR]
theorem TSt.pokeG {w0 w : World} {b jb pb tb : Nat} {X : Nat → Prop} {a cap kp : Nat} {op : Bool} {L : List ByteArray} {A : List (Nat × Nat)} {hn : Nat} {Rw R : Nat → Rc} (h : TSt w0 w b jb pb tb X a cap kp op L A hn Rw R) {w' : World} {Y P : Nat → Prop} (ho : Only P w w') (hP : ∀ x, P x → x < w.heap.size → X x) (hlo : ∀ x, P x → w0.heap.size ≤ x) (hpt : ¬ P tb) (hy : ∀ x, Y x → X x ∨ (w.heap.size ≤ x ∧ x < w'.heap.size)) (ht : Y tb) : TSt w0 w' b jb pb tb Y a cap kp op L A hn Rw R := by
  obtain ⟨S, Mw, Mn, h1, h2, h3, h4⟩ := h
  exact ⟨S, Mw, Mn, ⟨h1.pk.poke ho hP hlo hy, h1.bk.only ho hpt, ht, h1.ety, h1.seen, h1.ts, h1.tk, h1.lo, h1.hi, h1.cp⟩, h2, h3, h4⟩
theorem TSt.image {w0 w : World} {b jb pb tb : Nat} {X : Nat → Prop} {a cap kp : Nat} {op : Bool} {L : List ByteArray} {A : List (Nat × Nat)} {hn : Nat} {Rw R : Nat → Rc} (h : TSt w0 w b jb pb tb X a cap kp op L A hn Rw R) : Calls Tryz.prog 23 #[.pointer (some ⟨b, 0, none⟩)] w fun e w' => ∃ g cap, e = .returned (.slice (some ⟨g, 0, none⟩) 128 cap) ∧ w.heap.size ≤ g ∧ Strs w' (some ⟨g, 0, none⟩) L ∧ Below w.heap.size w w' := by
  obtain ⟨S, Mw, Mn, h1, h2, h3, h4⟩ := h
  obtain ⟨bw, bv, ov, K⟩ := h1.pk
  have k1 := K.jk
  rw [h1.seen.rst.s] at k1
  refine (imageK k1 h1.seen.len).mono ?_
  rintro e w' ⟨g, cap, rfl, q1, q2, q3, q4⟩
  exact ⟨g, cap, rfl, q1, q3, q4⟩
theorem TSt.lasts {w0 w : World} {b jb pb tb : Nat} {X : Nat → Prop} {a cap kp : Nat} {op : Bool} {L : List ByteArray} {A : List (Nat × Nat)} {hn : Nat} {Rw R : Nat → Rc} (h : TSt w0 w b jb pb tb X a cap kp op L A hn Rw R) : TS L a Rw ∧ L.length = 128 := by
  obtain ⟨S, Mw, Mn, h1, h2, h3, h4⟩ := h
  have h5 := h1.hi
  have h6 := h1.lo
  exact ⟨h2.over (fun k hk => h1.seen.was (a + k) (by omega) (by rw [h1.seen.len]; omega)), h1.seen.len⟩
theorem TSt.blt {w0 w : World} {b jb pb tb : Nat} {X : Nat → Prop} {a cap kp : Nat} {op : Bool} {L : List ByteArray} {A : List (Nat × Nat)} {hn : Nat} {Rw R : Nat → Rc} (h : TSt w0 w b jb pb tb X a cap kp op L A hn Rw R) : tb < w.heap.size := by
  obtain ⟨S, Mw, Mn, h1, h2, h3, h4⟩ := h
  exact h1.bk.lt
theorem TSt.tlo {w0 w : World} {b jb pb tb : Nat} {X : Nat → Prop} {a cap kp : Nat} {op : Bool} {L : List ByteArray} {A : List (Nat × Nat)} {hn : Nat} {Rw R : Nat → Rc} (h : TSt w0 w b jb pb tb X a cap kp op L A hn Rw R) (x : Nat) (hx : w.heap.size ≤ x) : w0.heap.size ≤ x := by have := h.bel.size; omega
theorem wAdv_free (q c : Nat) (v : List (Nat × Nat)) (a : Nat) (h : ∀ p, p < v.length → ((Rc.at ⟨true, q, c, v⟩) p).1 ≠ a) (hn : v.length < 8) : wAdv ⟨true, q, c, v⟩ a = 0 := by
  unfold wAdv
  rw [if_pos rfl, if_neg (fun ⟨p, h1, h2⟩ => h p h1 h2), if_neg (by show ¬ v.length = 8; omega)]
set_option maxRecDepth 100000 in
set_option maxHeartbeats 4000000 in
theorem pages11 {w : World} (hE : ETy w) (zq : Int) (hzq : I64 zq) (zc : Int) (hzc : I64 zc) {pa : Option Addr} {l : List Int} {na ca : Nat} (hl : na = l.length) (hI : Ints w pa l) (hw : ∀ i, I64 (l.getD i 0)) : Calls Tryz.prog 4 #[.int .i64 zq, .int .i64 zc, .slice pa na ca] w fun e w' => e = .returned (.bool true) ∧ Below w.heap.size w w' := by
  have HAW := hide (awake11_any w hE)
  have HARG := hide (And.intro hE (And.intro hl (And.intro hI hw)))
  have HPI := hide (fun W => pick11_any zq 1025 (by decide) hzq 1025 rfl W)
  have hqm := pickP_lt zq 1025 (by decide)
  have HPC := hide (fun W => pick11_any zc (pickP zq 1025 + 1) (by omega) hzc ((pickP zq 1025 + 1 : Nat) : Int) rfl W)
  have hcm := pickP_lt zc (pickP zq 1025 + 1) (by omega)
  generalize pickP zc (pickP zq 1025 + 1) = c at *
  generalize pickP zq 1025 = q at *
  have e1 : (q : Int) + 1 = ((q + 1 : Nat) : Int) := by omega
  have hwq : IntKind.i64.wrap ((q + 1 : Nat) : Int) = ((q + 1 : Nat) : Int) := wrapI_eq _ (by omega) (by omega)
  generalize ((q + 1 : Nat) : Int) = q1 at *
  obtain ⟨f, hf⟩ : ∃ xx : Nat → Nat × Nat, xx = fun i => (10 * i + 3, pickP (l.getD i 0) 1024) := ⟨_, rfl⟩
  have HFF := hide (show ∀ i, (f i).1 = 10 * i + 3 ∧ (f i).2 = pickP (l.getD i 0) 1024 ∧ (f i).2 ≤ 1023 from fun i => by rw [hf]; exact ⟨rfl, rfl, by have := pickP_lt (l.getD i 0) 1024 (by decide); show pickP (l.getD i 0) 1024 ≤ 1023; omega⟩)
  obtain ⟨n, hn⟩ : ∃ xx, min na 8 = xx := ⟨_, rfl⟩
  have hn8 : n ≤ 8 := by omega
  have hna : n ≤ na := by omega
  have hmin : min (na : Int) 8 = (n : Int) := by omega
  have HNN := hide hn
  clear hE hl hI hw hzq hzc hf hn
  go_enter Tryz.func4, Tryz.ntmps4
  go_wp2_with fail
  refine (unhide HAW).mono ?_
  rintro e w1 ⟨rfl, hb1⟩
  have HB1 := hide hb1
  have HOP := hide (topened_any 1024 (by decide) w1 ((unhide HARG).1.below hb1 (unhide HARG).1.lt))
  simp only [Int.cast_ofNat_Int] at HOP
  clear hb1 HAW
  go_wp2_with fail
  refine (unhide HOP).mono ?_
  rintro e x1 ⟨b, pb, tb, rfl, jb, LL, AA, hn, hA, h1⟩
  have HA := hide hA
  have HC := hide h1.begin
  clear h1 hA HOP
  go_wp2_with fail
  refine (unhide HPI _).mono ?_
  rintro e w' ⟨rfl, hw'⟩
  subst w'
  go_wp2_with fail
  refine (unhide HPC _).mono ?_
  rintro e w' ⟨rfl, hw'⟩
  subst w'
  clear HPI HPC
  go_wp2_with fail
  refine (unhide HC).mono ?_
  rintro e x2 ⟨rfl, h2, -⟩
  have HC := hide (h2.add_ok 5 (by decide) q (by omega) (show wAdd Rc0 (((1024 : Nat) : Int) - 0) q = 0 by unfold wAdd; rw [if_neg (by decide), if_neg (by omega)]))
  simp only [show ((5 + 1 : Nat) : Int) = 6 from rfl] at HC
  clear h2
  go_wp2_with fail
  refine (unhide HC).mono ?_
  rintro e x3 ⟨rfl, h3, -⟩
  have HC := hide (h3.charge_ok 5 (by decide) (c : Int) (by rw [ups_same]; show (if (c : Int) < -((0 : Nat) : Int) then 119 else if (q : Int) - ((0 : Nat) : Int) < (c : Int) then 112 else 0) = (0 : Int); rw [if_neg (by omega), if_neg (by omega)]))
  rw [ups_same, ups_ups, show chgR ⟨true, q, 0, []⟩ (c : Int) = ⟨true, q, c, []⟩ by unfold chgR; simp] at HC
  simp only [show ((5 + 1 : Nat) : Int) = 6 from rfl] at HC
  clear h3
  go_wp2_with fail
  refine (unhide HC).mono ?_
  rintro e x4 ⟨rfl, h4, -⟩
  have H4 := hide h4
  clear h4 HC
  go_wp2_with fail
  refine (newWriter_any _).mono ?_
  rintro e x5 ⟨rfl, hW5, hb5, hs5⟩
  obtain ⟨bw, hbw⟩ : ∃ xx, x4.heap.size = xx := ⟨_, rfl⟩
  have hlo := (unhide H4).tlo bw (by omega)
  have hbt : bw ≠ tb := by have := (unhide H4).blt; omega
  have T5 : TSt w1 x5 b jb pb tb (fun x => x = tb ∨ x = bw) 19 1024 4 true LL AA hn (fun _ => Rc0) _ := (unhide H4).more hb5 (fun x z => z.imp_right (fun e => by omega)) (.inl rfl)
  rw [hbw] at hW5 hs5 ⊢
  have hbl : bw ≤ x5.heap.size := by omega
  have P5 := hide (WPost.refl hW5)
  have X5 := hide (And.intro T5 (And.intro hlo (And.intro hbt hbl)))
  clear hW5 hb5 hs5 T5 hlo hbt hbl H4 hbw
  go_wp2_with fail
  refine (wnumK (unhide P5) (unhide X5).2.2.2 1 (by decide) (by decide) 1 (by decide) (by simp) 1 rfl (numB 1 1) rfl).mono ?_
  rintro e x6 ⟨rfl, hP6⟩
  have P6 := hide hP6
  clear hP6 P5
  go_wp2_with fail
  refine (wnum2K (unhide P6) (unhide X5).2.2.2 4 (by decide) (by decide) (q : Int) (c : Int) (fits4n q (by omega)) (fits4n c (by omega)) (by rw [numB_len]; omega) 4 rfl (numB 1 1 ++ (numB (q : Int) 4 ++ numB (c : Int) 4)) rfl).mono ?_
  rintro e x7 ⟨rfl, hP7⟩
  have P7 := hide hP7
  clear hP7 P6
  go_wp2_with fail
  refine (wnumK (unhide P7) (unhide X5).2.2.2 1 (by decide) (by decide) (n : Int) (fits1n n (by omega)) (by simp [numB_len]) 1 rfl (bdG 1 q c n f 0) (by simp [bdG, vF])).mono ?_
  rintro e x8 ⟨rfl, hP8⟩
  obtain ⟨T5, hlo, hbt, hbl⟩ := unhide X5
  obtain ⟨v1, W8, O8, h8⟩ := hP8
  have T8 : TSt w1 x8 b jb pb tb (fun x => x = tb ∨ Fp bw v1 x) 19 1024 4 true LL AA hn (fun _ => Rc0) _ := T5.pokeG (Y := (fun x => x = tb ∨ Fp bw v1 x)) O8 (fun x hx _ => by rcases hx with z | z; exact .inr z; cases z) (fun x hx => by rcases hx with z | z; omega; cases z) (fun hx => by rcases hx with z | z; exact hbt z.symm; cases z) (fun x hx => by
    rcases hx with z | z | z
    · exact .inl (.inl z)
    · exact .inl (.inr z)
    · rcases h8 x z with y | y
      · cases y
      · exact .inr ⟨y, (W8.2.1.lt x z).2⟩) (.inl rfl)
  have hnt : ¬ Fp bw v1 tb := by
    rintro (z | z)
    · exact hbt z.symm
    · rcases h8 tb z with y | y
      · cases y
      · have := T5.blt; omega
  have hflo : ∀ x, Fp bw v1 x → w1.heap.size ≤ x := fun x hx => by
    rcases hx with z | z
    · omega
    · have := (W8.2.1.lt x z).1; omega
  have hb8 : bw ≤ x8.heap.size := by have := O8.size; omega
  have X8 := hide (And.intro W8 (And.intro hnt (And.intro hflo hb8)))
  have HT8 := hide T8
  have HCG := hide (show ∀ W, Below w1.heap.size w1 W → ∀ k, k < n → ∃ g oo, pa = some ⟨g, oo, none⟩ ∧ W.cell? ⟨g, oo + k, none⟩ = some (.int .i64 (l.getD k 0)) from fun W hW k hk => by
    have hb1 := unhide HB1
    obtain ⟨hE, hl, hI, hwl⟩ := unhide HARG
    obtain ⟨g, oo, hp, hgl, cg⟩ := hI k (by omega)
    refine ⟨g, oo, hp, ?_⟩
    rw [(hb1.trans (hW.mono hb1.size)).cell (p := ⟨g, oo + k, none⟩) hgl]
    exact cg)
  have HPK := hide (fun k W => pick11_any (l.getD k 0) 1024 (by decide) ((unhide HARG).2.2.2 k) 1024 rfl W)
  clear T5 hlo hbt hbl W8 O8 h8 T8 hnt hflo hb8 X5 P7
  go_wp2
  go_loopw [19, 20] (fun i _ wr => ∃ (j : Nat) (R : Nat → Rc), j ≤ n ∧ i = .int .i64 ((j : Int) - 1) ∧ TSt w1 wr b jb pb tb (fun x => x = tb ∨ Fp bw v1 x) 19 1024 4 true LL AA hn (fun _ => Rc0) R ∧ R 5 = ⟨true, q, c, vlD f n j⟩ ∧ Only (fun x => ¬ (fun x => x = tb ∨ Fp bw v1 x) x) x8 wr) (fun i _ _ => ((intOf i) + 1).toNat)
  case atStart => exact ⟨n, _, Nat.le_refl _, rfl, unhide HT8, by rw [ups_same, vlD_nil], Only.refl _ _⟩
  case round =>
    obtain ⟨j, R, hj, rfl, h, hR, hO⟩ := hrel
    clear HT8
    by_cases hj0 : 1 ≤ j
    · obtain ⟨k, rfl⟩ : ∃ k, j = k + 1 := ⟨j - 1, by omega⟩
      have ek : ((k + 1 : Nat) : Int) - 1 = (k : Int) := by omega
      rw [ek]
      have hk0 : (0 : Int) ≤ (k : Int) := by omega
      have hkn' : (k : Int) < (na : Int) := by omega
      obtain ⟨g, oo, rfl, cg⟩ := unhide HCG wr h.bel k (by omega)
      obtain ⟨f1, f2, f3⟩ := unhide HFF k
      have hrise : ∀ p, p < (vlD f n (k + 1)).length → 10 * k + 3 < ((Rc.at ⟨true, q, c, vlD f n (k + 1)⟩) p).1 := fun p hp => by
        rw [vlD_len] at hp
        show _ < ((vlD f n (k + 1)).getD p (0, 0)).1
        rw [vlD_at f n (k + 1) p hp, (unhide HFF (k + 1 + p)).1]
        omega
      have hfr : wAdv (R 5) (10 * k + 3) = 0 := by
        rw [hR]
        exact wAdv_free q c _ _ (fun p hp z => by have := hrise p hp; omega) (by rw [vlD_len]; omega)
      have HC := hide (h.addVol_ok 5 (by decide) (10 * k + 3) (f k).2 (by omega) f3 hfr)
      rw [show (R 5).with (10 * k + 3) (f k).2 = ⟨true, q, c, vlD f n k⟩ by rw [hR, with_front _ _ _ hrise, ← vlD_cons f n k (by omega), show f k = (10 * k + 3, (f k).2) from by rw [← f1]]] at HC
      have HPW := hide (fun W => unhide HPK k W)
      rw [← f2] at HPW
      simp only [show ((5 + 1 : Nat) : Int) = 6 from rfl] at HC
      have e2 : (10 : Int) * (k : Int) + 3 = ((10 * k + 3 : Nat) : Int) := by omega
      have hw2 : IntKind.i64.wrap ((10 : Int) * (k : Int)) = (10 : Int) * (k : Int) := wrapI_eq _ (by omega) (by omega)
      have hw3 : IntKind.i64.wrap ((10 * k + 3 : Nat) : Int) = ((10 * k + 3 : Nat) : Int) := wrapI_eq _ (by omega) (by omega)
      have hw4 : IntKind.i64.wrap ((k : Int) - 1) = (k : Int) - 1 := wrapI_eq _ (by omega) (by omega)
      have HO := hide hO
      have hdg : decide ((0 : Int) ≤ (k : Int)) = true := decide_eq_true hk0
      generalize ((10 * k + 3 : Nat) : Int) = a3 at *
      generalize (f k).2 = bk at *
      generalize l.getD k 0 = m at *
      clear h hR hO hfr hrise f1 f2 f3 hj0 ek
      go_wp2_with (go_at_call 11; refine (unhide HPW _).mono ?_; rintro e w' ⟨rfl, hw'⟩; subst w')
      refine (unhide HC).mono ?_
      rintro e y1 ⟨rfl, h1, hO1⟩
      have H1 := hide (And.intro h1 ((unhide HO).trans hO1 (fun _ _ z => z)))
      clear h1 hO1 HC cg
      go_wp2
      go_roundw
      case rel => exact ⟨k, _, by omega, rfl, (unhide H1).1, ups_same _ _ _, (unhide H1).2⟩
      case measure => simp [intOf]; try omega
    · obtain rfl : j = 0 := by omega
      obtain ⟨wo, rfl⟩ : ∃ wo, wo = wr := ⟨_, rfl⟩
      obtain ⟨W8, hnt, hflo, hb8⟩ := unhide X8
      have Wo := W8.only hO (fun k hk z => z (.inr hk))
      have hbo : bw ≤ wo.heap.size := by have := hO.size; omega
      have P0 := hide (WPost.refl Wo)
      have HH := hide (And.intro h (And.intro hR (And.intro hnt (And.intro hflo hbo))))
      have HLW := hide (show ∀ l' W, WPost bw bw v1 l' 0 wo W → Below w1.heap.size w1 W from fun l' W hP => by
        have hOW : Only (Fp bw v1) wo W := by obtain ⟨_, _, z, _⟩ := hP; exact z
        exact h.bel.trans (hOW.below (B := w1.heap.size) h.bel.size (fun x hx z => by have := hflo x z; omega)))
      have hge : ¬ (0 : Int) ≤ ((0 : Nat) : Int) - 1 := by omega
      have hge' : decide ((0 : Int) ≤ ((0 : Nat) : Int) - 1) = false := decide_eq_false hge
      generalize ((0 : Nat) : Int) - 1 = i0 at *
      clear h hR hO W8 hnt hflo hb8 Wo hbo X8 hj0 hj
      go_wp2
      go_loopw [21] (fun i wr => ∃ k : Nat, k ≤ n ∧ i = .int .i64 (k : Int) ∧ WPost bw bw v1 (bdG 1 q c n f k) 0 wo wr) (fun i _ => n - (intOf i).toNat)
      case atStart => exact ⟨0, Nat.zero_le _, rfl, unhide P0⟩
      case round =>
        obtain ⟨k, hk, rfl, hP⟩ := hrel
        clear P0
        by_cases hkn : k < n
        · have hkn1 : (k : Int) < (n : Int) := by omega
          have hk0 : (0 : Int) ≤ (k : Int) := by omega
          have hkn' : (k : Int) < (na : Int) := by omega
          obtain ⟨f1, f2, f3⟩ := unhide HFF k
          have HPW := hide (fun W => unhide HPK k W)
          rw [← f2] at HPW
          have HSU := hide (bdG_succ 1 q c n f k)
          rw [f1] at HSU
          have HLN := hide (show (bdG 1 q c n f k).length ≤ 100 by rw [bdG_len]; omega)
          have e2 : (10 : Int) * (k : Int) + 3 = ((10 * k + 3 : Nat) : Int) := by omega
          have hw2 : IntKind.i64.wrap ((10 : Int) * (k : Int)) = (10 : Int) * (k : Int) := wrapI_eq _ (by omega) (by omega)
          have hw3 : IntKind.i64.wrap ((10 * k + 3 : Nat) : Int) = ((10 * k + 3 : Nat) : Int) := wrapI_eq _ (by omega) (by omega)
          have HN1 := hide (wnumK hP (unhide HH).2.2.2.2 1 (by decide) (by decide) ((10 * k + 3 : Nat) : Int) (fits1n _ (by omega)) (by have := unhide HLN; omega) 1 rfl _ rfl)
          generalize ((10 * k + 3 : Nat) : Int) = a3 at *
          generalize (f k).2 = bk at *
          clear hP f1 f2
          go_wp2_with fail
          refine (unhide HN1).mono ?_
          rintro e y1 ⟨rfl, hP1⟩
          obtain ⟨g, oo, rfl, cg⟩ := unhide HCG y1 (unhide HLW _ _ hP1) k hkn
          generalize l.getD k 0 = m at *
          have HN2 := hide (wnumK hP1 (unhide HH).2.2.2.2 4 (by decide) (by decide) (bk : Int) (fits4n bk (by omega)) (by rw [List.length_append, numB_len]; have := unhide HLN; omega) 4 rfl _ (unhide HSU))
          clear hP1 HN1
          go_wp2_with (go_at_call 11; refine (unhide HPW _).mono ?_; rintro e w' ⟨rfl, hw'⟩; subst w')
          refine (unhide HN2).mono ?_
          rintro e y2 ⟨rfl, hP2⟩
          have HP2 := hide hP2
          clear hP2 HN2 cg
          go_wp2
          go_roundw
          case rel => exact ⟨k + 1, by omega, by go_num, unhide HP2⟩
          case measure => simp [intOf]; omega
        · have hke : k = n := by omega
          have hkn1 : ¬ (k : Int) < (n : Int) := by omega
          rw [hke] at hP
          obtain ⟨z, hz⟩ : ∃ xx, 40 - 5 * n = xx := ⟨_, rfl⟩
          have e5 : (40 : Int) - 5 * (n : Int) = (z : Int) := by omega
          have hw5 : IntKind.i64.wrap ((5 : Int) * (n : Int)) = (5 : Int) * (n : Int) := wrapI_eq _ (by omega) (by omega)
          have hwz : IntKind.i64.wrap (z : Int) = (z : Int) := wrapI_eq _ (by omega) (by omega)
          have hmk := run_make_u8 z z (Nat.le_refl _) (by omega) wr
          obtain ⟨x9, hx9⟩ : ∃ xx, wr.alloc (.cells ((List.replicate z (0 : Int)).map (Value.int .u8)).toArray 5) = xx := ⟨_, rfl⟩
          have hA9 : Arr x9 wr.heap.size 0 .u8 (List.replicate z 0) := by rw [← hx9]; exact arr_new wr .u8 _ 5 _ rfl
          have hcv := run_convert_bytes_arg (P := Tryz.prog) x9 44 5 Tryz.underlying44 Tryz.underlying5 wr.heap.size 0 z z (List.replicate z 0) (by simp) (fun i hi => hA9.get i (by simpa using hi)) 9 Tryz.underlying9
          have HRA := hide (rawK (hP.below (w2 := x9) (by rw [← hx9]; exact (Below.refl _ _).alloc (Nat.le_refl _) _)) (unhide HH).2.2.2.2 (strOfNums (List.replicate z 0)) (by rw [strOfNums_size, List.length_replicate, bdG_len]; omega))
          rw [wl_good, nums_strOfNums _ (rep_bytes z), ← hz, bd_law q c n f hn8] at HRA
          rw [hx9] at hmk
          rw [hz] at HRA
          generalize strOfNums (List.replicate z 0) = tz at *
          clear hA9 hx9 hP hz hke
          go_wp2_with fail
          refine (unhide HRA).mono ?_
          rintro e y1 ⟨rfl, hP1⟩
          have HDN := hide (doneK hP1)
          rw [show strOfNums (bdL ⟨true, q, c, vlD f n 0⟩) = bdR ⟨true, q, c, vlD f n 0⟩ from rfl] at HDN
          clear hP1 HRA hmk hcv
          go_wp2_with fail
          refine (unhide HDN).mono ?_
          rintro e y2 ⟨rfl, hP2⟩
          have HMP := hide (make_any rep_ok 5 6 (bdR ⟨true, q, c, vlD f n 0⟩) y2)
          rw [show errM 5 6 (bdR ⟨true, q, c, vlD f n 0⟩).size = 0 from pgR_err 6 _ (by decide), show makeB 5 6 (bdR ⟨true, q, c, vlD f n 0⟩) = pgR 6 ⟨true, q, c, vlD f n 0⟩ from rfl] at HMP
          have HP2 := hide hP2
          generalize bdR ⟨true, q, c, vlD f n 0⟩ = bd at *
          clear hP2 HDN
          go_wp2_with fail
          refine (unhide HMP).mono ?_
          rintro e y3 ⟨rfl, hb3⟩
          obtain ⟨h, hR, hnt, hflo, hbo⟩ := unhide HH
          have hO2 : Only (Fp bw v1) wo y2 := by obtain ⟨_, _, z, _⟩ := unhide HP2; exact z
          have T2 : TSt w1 y2 b jb pb tb (fun x => x = tb) 19 1024 4 true LL AA hn (fun _ => Rc0) R := h.pokeG (Y := fun x => x = tb) hO2 (fun x hx _ => .inr hx) hflo hnt (fun x hx => .inl (.inl hx)) rfl
          have HCM := hide ((T2.below hb3).commit (by have := unhide HA; omega))
          have HRP := hide (show R 5 = ⟨true, q, c, vlD f n 0⟩ from hR)
          clear h hR hnt hflo hbo hO2 T2 hb3 HMP HP2
          go_wp2_with fail
          refine (unhide HCM).mono ?_
          rintro e y4 ⟨rfl, ⟨L2, A2, hA2, h4⟩, -⟩
          have HIM := hide h4.image
          have h4l := h4.lasts
          have hpg := (h4l.1 5 (by decide)).1
          rw [unhide HRP] at hpg
          have HL2 := hide (And.intro hpg (And.intro h4l.2 h4.bel))
          clear hA2 h4 h4l hpg HCM
          go_wp2_with fail
          refine (unhide HIM).mono ?_
          rintro e y5 ⟨gi, cp, rfl, hgi, hst, hb5⟩
          obtain ⟨hpg, hl2, hbel⟩ := unhide HL2
          obtain ⟨g', o', e', hlt', ci⟩ := hst 24 (by rw [hl2]; decide)
          cases e'
          rw [show L2.getD 24 ByteArray.empty = pgR 6 ⟨true, q, c, vlD f n 0⟩ from hpg] at ci
          simp only [Nat.zero_add] at ci
          have HBF := hide ((unhide HB1).trans ((hbel.trans (hb5.mono hbel.size)).mono (unhide HB1).size))
          generalize pgR 6 ⟨true, q, c, vlD f n 0⟩ = pg at *
          clear hpg hl2 hbel hst hgi hb5 hlt' HIM HL2
          go_wp2
          go_ret
          exact ⟨rfl, unhide HBF⟩
end Go.Proofs.YtbpcgephicmhhaaGreatDoor
