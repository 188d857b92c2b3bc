import Derived.Test.YtnkaooafenakdaaGreatDoorMr49
import Derived.WalkMore
import Derived.Deep.DeepCutAuto
namespace Go.Proofs.YtnkaooafenakdaaGreatDoor
open Go.RowKit Go.Maps Go.Sort Go.Shelf
theorem arm_rs6 (I : List ByteArray) (A : List (Nat × Nat)) (f : Nat) : armE (rs I A) (f : Int) = 0 ∧ armS (rs I A) (f : Int) = ⟨I, I, [], A, (f : Int), false⟩ := by
  have h : ¬ ((f : Int) < 0) := by omega
  rw [armE, armS, if_neg h, if_neg h]
  exact ⟨rfl, rfl⟩
theorem arm_one (I : List ByteArray) (A : List (Nat × Nat)) (v : Nat) : armE (rs I A) (1 + (v : Int)) = 0 ∧ armS (rs I A) (1 + (v : Int)) = ⟨I, I, [], A, ((v + 1 : Nat) : Int), false⟩ := by
  have h : (1 : Int) + (v : Int) = ((v + 1 : Nat) : Int) := by omega
  rw [h]
  exact arm_rs6 I A (v + 1)
theorem imageG {w0 w : World} {b : Nat} {s : DSt} {X : Nat → Prop} (h : DF w0 w b s X) (hL : s.last.length = 128) : Calls Tryz.prog 28 #[.pointer (some ⟨b, 0, none⟩)] w fun e w' => ∃ g cap, e = .returned (.slice (some ⟨g, 0, none⟩) 128 cap) ∧ Strs w' (some ⟨g, 0, none⟩) s.last ∧ Below w.heap.size w w' := by
  obtain ⟨v, h1, _⟩ := h
  refine (image_any w _ b v _ h1 (by omega) (by omega)).mono ?_
  rintro e w' ⟨v', rfl, hr, hb⟩
  obtain ⟨g, cap, e, hg1, hg2⟩ := hr.form (by omega)
  obtain ⟨p', c', e2, hs⟩ := Strs.own hr
  rw [e] at e2
  simp at e2
  obtain ⟨rfl, rfl⟩ := e2
  exact ⟨g, cap, by rw [e, hL], hs, hb⟩
def Xg (gw gn x : Nat) : Prop := x = gw ∨ x = gn
def ZgI (w : World) (b jb pb gw gn : Nat) (k : Nat) (wr : World) : Prop := PK w wr b jb pb (freshP 7) (Xg gw gn) ∧ Blk wr gw (strs (zG k)).toArray 9 ∧ Blk wr gn (strs (zG 0)).toArray 9
def AlR (w : World) (b gw gn : Nat) (O : List ByteArray) (T : Tx) (must : Bool) (Ww Wn : List ByteArray) (k : Nat) (wr : World) : Prop :=
  ∃ s, DF w wr b s (Xg gw gn) ∧ Crashed (StA O T must) s ∧ s.pend.length ≤ 16 ∧ s.acts.length ≤ 1000 + 19 * k ∧ Blk wr gw (strs Ww).toArray 9 ∧ Blk wr gn (strs Wn).toArray 9
def AkI (wo : World) (P q : Nat) (u : Value) (wr : World) : Prop := ∃ K : List Int, wr.ownsRow wo.heap.size 3 1 u K.length (K.map (Value.int .i64)) ∧ (∀ z ∈ K, pickOk P z) ∧ K.length ≤ q ∧ Below wo.heap.size wo wr
theorem AlR.bel {w : World} {b gw gn : Nat} {O : List ByteArray} {T : Tx} {must : Bool} {Ww Wn : List ByteArray} {k : Nat} {wr : World} (h : AlR w b gw gn O T must Ww Wn k wr) : Below w.heap.size w wr := by
  obtain ⟨s, h1, _⟩ := h
  exact h1.bel
def RdI (y : World) (cb jb pb : Nat) (I : List ByteArray) (A : List (Nat × Nat)) (n : Nat) (wr : World) : Prop := ∃ S, PK y wr cb jb pb S (fun _ => False) ∧ Seen S I A n I I
set_option maxRecDepth 100000 in
set_option maxHeartbeats 8000000 in
theorem patomic_walk (p1 : Option Addr) (c1 : Nat) (l1 : List Int) (n1 : Nat) (hn1 : n1 = l1.length) (p2 : Option Addr) (c2 : Nat) (l2 : List Int) (n2 : Nat) (hn2 : n2 = l2.length) (am : Int) (ham : I64 am) (p3 : Option Addr) (c3 : Nat) (l3 : List Int) (n3 : Nat) (hn3 : n3 = l3.length) (p4 : Option Addr) (c4 : Nat) (l4 : List Int) (n4 : Nat) (hn4 : n4 = l4.length) (w : World) (hg : ETy w) (hi1 : Ints w p1 l1) (hi2 : Ints w p2 l2) (hi3 : Ints w p3 l3) (hi4 : Ints w p4 l4) (hw1 : ∀ i, I64 (l1.getD i 0)) (hw2 : ∀ i, I64 (l2.getD i 0)) (hw3 : ∀ i, I64 (l3.getD i 0)) (hw4 : ∀ i, I64 (l4.getD i 0)) (hz3 : n3 ≤ 17592186044415) (hz4 : n4 ≤ 9223372036854775807) :
    Calls Tryz.prog 7 #[.slice p1 n1 c1, .slice p2 n2 c2, .int .i64 am, .slice p3 n3 c3, .slice p4 n4 c4] w fun e w' => e = .returned (.bool true) ∧ Below w.heap.size w w' := by
  have HFR := hide (pfresh_any 7 (by decide) w hg)
  have HA1 := hide (And.intro hn1 (And.intro hi1 hw1))
  have HA2 := hide (And.intro hn2 (And.intro hi2 hw2))
  have HA3 := hide (And.intro hn3 (And.intro hi3 hw3))
  have HA4 := hide (And.intro hn4 (And.intro hi4 hw4))
  have HAM := hide ham
  have HG := hide hg
  have hmk := run_make_s 128 (by decide)
  simp only [Int.cast_ofNat_Int] at hmk
  rw [← zG_start] at hmk
  have HMK := hide hmk
  obtain ⟨i0, hi, hz0, hz1, hz2⟩ := info_parts infoI3
  have HI := hide (And.intro hi (And.intro hz0 (And.intro hz1 hz2)))
  clear hi hz0 hz1 hz2
  clear hg hn1 hi1 hw1 hn2 hi2 hw2 hn3 hi3 hw3 hn4 hi4 hw4 ham hmk
  go_enter Tryz.func7, Tryz.ntmps7
  go_wp2_with fail
  refine (unhide HFR).mono ?_
  rintro e x1 ⟨b, jb, pb, rfl, K1⟩
  have hmk1 := unhide HMK x1
  obtain ⟨x2, hx2⟩ : ∃ x, x1.alloc (.cells (strs (zG 0)).toArray 9) = x := ⟨_, rfl⟩
  rw [hx2] at hmk1
  have hb2 : Below x1.heap.size x1 x2 := by rw [← hx2]; exact (Below.refl _ _).alloc (Nat.le_refl _) _
  have hB2 : Blk x2 x1.heap.size (strs (zG 0)).toArray 9 := by rw [← hx2]; exact Blk.new x1 _ _
  have hmk2 := unhide HMK x2
  obtain ⟨x3, hx3⟩ : ∃ x, x2.alloc (.cells (strs (zG 0)).toArray 9) = x := ⟨_, rfl⟩
  rw [hx3] at hmk2
  have hb3 : Below x2.heap.size x2 x3 := by rw [← hx3]; exact (Below.refl _ _).alloc (Nat.le_refl _) _
  have hB3 : Blk x3 x2.heap.size (strs (zG 0)).toArray 9 := by rw [← hx3]; exact Blk.new x2 _ _
  have hlow := K1.bel.size
  have hlow2 : w.heap.size ≤ x2.heap.size := Nat.le_trans hlow hb2.size
  have K2 : PK w x2 b jb pb (freshP 7) (fun x => x = x1.heap.size) := K1.more hb2 (fun x hx => .inr (by rw [hx]; exact ⟨Nat.le_refl _, hB2.lt⟩))
  have K3 : PK w x3 b jb pb (freshP 7) (Xg x1.heap.size x2.heap.size) := K2.more hb3 (fun x hx => by
    rcases hx with q | q
    · exact .inl q
    · exact .inr (by rw [q]; exact ⟨Nat.le_refl _, hB3.lt⟩))
  have hBw := hB2.below hb3 hB2.lt
  have hne : x1.heap.size ≠ x2.heap.size := by have := hB2.lt; omega
  obtain ⟨gw, hgw⟩ : ∃ g, x1.heap.size = g := ⟨_, rfl⟩
  obtain ⟨gn, hgn⟩ : ∃ g, x2.heap.size = g := ⟨_, rfl⟩
  rw [hgw] at hmk1 hBw K3 hlow hne
  rw [hgn] at hmk2 hB3 K3 hlow2 hne
  have X0 := hide (show ZgI w b jb pb gw gn 0 x3 from ⟨K3, hBw, hB3⟩)
  have HLO := hide (And.intro hlow (And.intro hlow2 hne))
  clear K1 K2 K3 hb2 hb3 hB2 hB3 hBw hx2 hx3 HFR hlow hlow2 hne
  replace hgw := hide hgw
  replace hgn := hide hgn
  go_wp2
  go_loopw [15] (fun i wr => ∃ k : Nat, k ≤ 128 ∧ i = .int .i64 (k : Int) ∧ ZgI w b jb pb gw gn k wr) (fun i _ => 128 - (intOf i).toNat)
  case atStart => exact ⟨0, by omega, rfl, unhide X0⟩
  case round =>
    obtain ⟨k, hk, rfl, h1, h2, h3⟩ := hrel
    obtain ⟨wo, rfl⟩ : ∃ wo, wo = wr := ⟨_, rfl⟩
    clear X0 hmk1 hmk2
    by_cases hk128 : k < 128
    · have e1 : (k : Int) < 128 := by omega
      have j0 : (0 : Int) ≤ (k : Int) := by omega
      have HBY := hide (bytes6_any ⟨#[0]⟩ wo)
      rw [zero_rep] at HBY
      have HH := hide (And.intro h1 (And.intro h2 h3))
      clear h1 h2 h3
      go_wp2_with fail
      refine (unhide HBY).mono ?_
      rintro e y1 ⟨rfl, hb1⟩
      have K1 := (unhide HH).1.below hb1
      have B1 := (unhide HH).2.1.below hb1 (unhide HH).2.1.lt
      have B2 := (unhide HH).2.2.below hb1 (unhide HH).2.2.lt
      have cz : y1.cell? ⟨gw, k, none⟩ = some (.string ((zG k).getD k ByteArray.empty)) := by rw [B1.cell]; simp [strs, List.getD_eq_getElem?_getD, zG_len, hk128]
      have fz : y1.frozen? ⟨gw, k, none⟩ = false := B1.frozen k
      have HRR := hide (show ZgI w b jb pb gw gn (k + 1) (y1.setCell ⟨gw, k, none⟩ (.string zero256)) from by
        refine ⟨K1.poke (only1 y1 gw k _) (fun x q _ => .inl q) (fun x q => by rw [q]; exact (unhide HLO).1) (fun x hx => .inl hx), ?_, B2.only (only1 y1 gw k _) (fun q => (unhide HLO).2.2 q.symm)⟩
        have := B1.set k (.string zero256)
        rw [strs_seti, zG_step k] at this
        exact this)
      generalize (zG k).getD k ByteArray.empty = old at *
      clear K1 B1 B2 hb1 HH HBY
      go_wp2
      go_roundw
      case rel => exact ⟨k + 1, by omega, by go_num, unhide HRR⟩
      case measure => simp [intOf]; omega
    · have hk' : k = 128 := by omega
      subst hk'
      have e1 : ¬ ((128 : Nat) : Int) < 128 := by decide
      have HC := hide (commits_any h1 rfl rfl rfl (by show L0.length = 128; exact L0_len) (by decide) (Nat.zero_le _) (by show A0.length ≤ _; decide) gw 128 (zG 128) (zG_len 128) h2 (.inl rfl) (unhide HLO).1 p1 c1 l1 n1 (unhide HA1).1 (unhide HA1).2.1 (unhide HA1).2.2 ⟨#[98]⟩ 98 0 rfl (fun _ => rfl) rfl (by decide))
      have hG1 := cTx_good l1 0 (min n1 16) (by omega)
      have hR1 : Rst (cS (freshP 7) l1 0 (min n1 16)) L0 A0 1 := ⟨rfl, rfl, rfl, rfl⟩
      obtain ⟨ee, R1, o1, t1, -, -⟩ := commit_rest hR1 rfl L0_len hG1
      rw [ee] at HC
      rw [show (cS (freshP 7) l1 0 (min n1 16)).tx = cTx l1 0 (min n1 16) from rfl] at R1
      have hWE := was_eq l1 (min n1 16) (by omega)
      have hWl : (cSec l1 0 (zG 128) (min n1 16)).length = 128 := by rw [cSec_len, zG_len]
      have hO : StO (comL L0 1 (cTx l1 0 (min n1 16))) (comL L0 1 (cTx l1 0 (min n1 16))) := ⟨(comL_len L0 1 _).trans L0_len, com_size L0 1 _ hG1 L0_size, com_head L0 1 _ (by rw [L0_len]; decide), fun k _ _ => rfl⟩
      have hAL : (A0 ++ comA (cTx l1 0 (min n1 16))).length = 40 := by rw [List.length_append, comA_len _ hG1.len]; rfl
      generalize commitPS (cS (freshP 7) l1 0 (min n1 16)) = S1 at *
      generalize cSec l1 0 (zG 128) (min n1 16) = Ww at *
      generalize comL L0 1 (cTx l1 0 (min n1 16)) = O at *
      generalize A0 ++ comA (cTx l1 0 (min n1 16)) = A at *
      have HS1 := hide (And.intro R1 (And.intro o1 t1))
      have HOO := hide (And.intro hO (And.intro hAL (And.intro hWE hWl)))
      have HB0 := hide h3
      clear h1 h2 h3 hG1 hR1 ee R1 o1 t1 hWE hWl hO hAL hk128 hk HMK HA1
      go_wp2_with fail
      refine (unhide HC).mono ?_
      rintro e x4 ⟨rfl, K4, hB4, hO4⟩
      have hBn4 := (unhide HB0).only hO4 (fun q => by
        rcases q with q | q
        · exact q (.inr rfl)
        · exact (unhide HLO).2.2 q.symm)
      obtain ⟨x5, hcp, hB5, hO5⟩ := copy128 hBn4 hB4 (zG_len 0) (unhide HOO).2.2.2 3
      have K5 := K4.poke hO5 (fun x q _ => .inr q) (fun x q => by rw [q]; exact (unhide HLO).2.1) (fun x hx => .inl hx)
      have hBw5 := hB4.only hO5 (fun q => (unhide HLO).2.2 q)
      have HPK := hide (fun W => pick6_any am 45 (by decide) (unhide HAM) 45 rfl W)
      have hfl := pickP_lt am 45 (by decide)
      generalize pickP am 45 = f at *
      have HAR := hide (armP K5 (f : Int) (by omega) (by rw [(unhide HS1).1.s, (arm_rs6 O A f).2]; rfl))
      rw [(unhide HS1).1.s, (arm_rs6 O A f).1, (arm_rs6 O A f).2] at HAR
      have HB5 := hide (And.intro hBw5 hB5)
      clear K4 hB4 hO4 hBn4 hB5 hO5 K5 hBw5 HC HB0
      go_wp2_with (go_at_call 10; refine (unhide HPK _).mono ?_; rintro e w' ⟨rfl, hw'⟩; subst w')
      refine (unhide HAR).mono ?_
      rintro e x6 ⟨rfl, K6, hO6⟩
      obtain ⟨S2, hS2⟩ : ∃ S, ({ S1 with s := ⟨O, O, [], A, (f : Int), false⟩ } : PS) = S := ⟨_, rfl⟩
      rw [hS2] at K6
      have s2 : S2.s = ⟨O, O, [], A, (f : Int), false⟩ := by rw [← hS2]
      have nx2 : S2.nx = 2 := by rw [← hS2]; exact (unhide HS1).1.nx
      have jl2 : S2.jl = false := by rw [← hS2]; exact (unhide HS1).1.jl
      have lo2 : S2.lost = false := by rw [← hS2]; exact (unhide HS1).1.lost
      have op2 : S2.op = false := by rw [← hS2]; exact (unhide HS1).2.1
      have tx2 : S2.tx = [] := by rw [← hS2]; exact (unhide HS1).2.2
      have hBw6 := (unhide HB5).1.only hO6 (fun q => q (.inl rfl))
      have hBn6 := (unhide HB5).2.only hO6 (fun q => q (.inr rfl))
      obtain ⟨hO, hAL, hWE, hWl⟩ := unhide HOO
      have HC := hide (commits_any K6 op2 lo2 tx2 (by rw [s2]; exact hO.len) (by rw [nx2]; decide) (by rw [s2]; exact Nat.zero_le _) (by rw [s2]; show A.length ≤ _; omega) gn 128 Ww hWl hBn6 (.inr rfl) (unhide HLO).2.1 p2 c2 l2 n2 (unhide HA2).1 (unhide HA2).2.1 (unhide HA2).2.2 ⟨#[119]⟩ 119 21 rfl (fun _ => rfl) rfl (by decide))
      have hG2 := cTx_good l2 21 (min n2 16) (by omega)
      obtain ⟨ce, s3, ee, es, hce, hp3, ha3, hcr⟩ := commitP_at (S := cS S2 l2 21 (min n2 16)) (O := O) (A := A) (f := f) s2 nx2 jl2 lo2 rfl hO hG2 (by omega)
      rw [ee] at HC
      rw [show (cS S2 l2 21 (min n2 16)).tx = cTx l2 21 (min n2 16) from rfl] at hcr
      have hNE := now_eq l2 (min n2 16) O Ww hO.len hWl hWE
      have hNl : (cSec l2 21 Ww (min n2 16)).length = 128 := by rw [cSec_len, hWl]
      generalize commitPS (cS S2 l2 21 (min n2 16)) = S3 at *
      generalize cSec l2 21 Ww (min n2 16) = Wn at *
      generalize cTx l2 21 (min n2 16) = T2 at *
      obtain ⟨must, hmu⟩ : ∃ m, decide (ce = 0) = m := ⟨_, rfl⟩
      rw [hmu] at hcr
      have HCR := hide (And.intro hcr (And.intro hp3 (And.intro (show s3.acts.length ≤ 1000 + 19 * 0 by omega) es)))
      have HT2 := hide (And.intro hG2 (And.intro hNE (And.intro hNl (And.intro hO (And.intro hWE hWl)))))
      have HCE := hide (And.intro hce hmu)
      have HB6 := hide hBw6
      clear K6 hO6 hS2 s2 nx2 jl2 lo2 op2 tx2 hBw6 hBn6 hO hAL hWE hWl hG2 ee es hce hp3 ha3 hcr hNE hNl hmu HAR HPK HB5 HOO HS1 hcp HA2
      go_wp2_with fail
      refine (unhide HC).mono ?_
      rintro e x7 ⟨rfl, K7, hB7, hO7⟩
      have hBw7 := (unhide HB6).only hO7 (fun q => by
        rcases q with q | q
        · exact q (.inl rfl)
        · exact (unhide HLO).2.2 q)
      have R0 := hide (show AlR w b gw gn O T2 must Ww Wn 0 x7 from ⟨s3, by have := K7.df; rw [(unhide HCR).2.2.2] at this; exact this, (unhide HCR).1, (unhide HCR).2.1, (unhide HCR).2.2.1, hBw7, hB7⟩)
      clear K7 hB7 hO7 hBw7 HB6 HC HCR
      go_upto_region 16 with fail
      go_cut [75] (fun c wx => c = .bool false ∧ wx = x7)
      case first =>
        rcases (unhide HCE).1 with h | h
        · subst h
          go_wp2_with fail
          go_meet
          exact ⟨rfl, rfl⟩
        · subst h
          go_wp2_with fail
          go_meet
          exact ⟨rfl, rfl⟩
      case rest =>
      obtain ⟨rfl, hwc⟩ := hcut
      subst wc
      go_wp2
      go_loopw [12, 19] (fun pq i wr => pq = .pointer (some ⟨pb, 0, none⟩) ∧ ∃ k : Nat, (k ≤ n4 ∧ k ≤ 6) ∧ i = .int .i64 (k : Int) ∧ AlR w b gw gn O T2 must Ww Wn k wr) (fun _ i _ => 7 - (intOf i).toNat)
      case atStart => exact ⟨rfl, 0, ⟨by omega, by omega⟩, rfl, unhide R0⟩
      case round =>
        obtain ⟨rfl, k, ⟨hk4, hk6⟩, rfl, s, hD, hCr, hP16, hAc, hBw, hBn⟩ := hrel
        obtain ⟨wv, rfl⟩ : ∃ wv, wv = wr := ⟨_, rfl⟩
        have HPD := hide (pendingD hD.di)
        have HX := hide (And.intro hD (And.intro hCr (And.intro hP16 (And.intro hAc (And.intro hBw hBn)))))
        obtain ⟨P, hP⟩ : ∃ P, s.pend.length = P := ⟨_, rfl⟩
        rw [hP] at HPD
        have HPE := hide hP
        have hPb : P ≤ 16 := by omega
        clear hD hCr hP16 hAc hBw hBn hP R0
        go_wp2_with fail
        refine (unhide HPD).mono ?_
        rintro ev y0 ⟨rfl, rfl⟩
        have A0I := hide (show AkI y0 P 0 (.slice none 0 0) y0 from ⟨[], World.ownsRow_nil _ _ _ _, fun x hx => (by cases hx), Nat.le_refl _, Below.refl _ _⟩)
        go_wp2
        go_loopw [21, 22] (fun u j wr => ∃ q : Nat, q ≤ n3 ∧ j = .int .i64 (q : Int) ∧ AkI y0 P q u wr) (fun _ j _ => n3 - (intOf j).toNat)
        case atStart => exact ⟨0, by omega, rfl, unhide A0I⟩
        case round =>
          obtain ⟨q, hq, rfl, K, hR, hK, hKl, hB⟩ := hrel
          obtain ⟨wi, rfl⟩ : ∃ wi, wi = wr := ⟨_, rfl⟩
          obtain ⟨pv, cv, rfl, hcv⟩ := row_form hR
          have HR := hide hR
          have HK := hide hK
          have HB := hide hB
          obtain ⟨m, hm⟩ : ∃ m, K.length = m := ⟨_, rfl⟩
          rw [hm] at hKl ⊢
          have HM := hide hm
          clear hR hK hB hm hcv A0I
          obtain ⟨cb, hcb⟩ : ∃ cb : Bool, decide (q < n3 ∧ 0 < P) = cb := ⟨_, rfl⟩
          have HCB := hide hcb
          clear hcb
          go_upto_region 23 with fail
          go_cut [89] (fun c wx => c = .bool cb ∧ wx = wi)
          case first =>
            by_cases g1 : q < n3
            · have g1' : (q : Int) < (n3 : Int) := by omega
              by_cases g2 : 0 < P
              · have g2' : (0 : Int) < (P : Int) := by omega
                go_wp2_with fail
                go_meet
                exact ⟨congrArg Value.bool (by rw [← unhide HCB]; exact (decide_eq_true ⟨g1, g2⟩).symm), rfl⟩
              · have g2' : ¬ (0 : Int) < (P : Int) := by omega
                go_wp2_with fail
                go_meet
                exact ⟨congrArg Value.bool (by rw [← unhide HCB]; exact (decide_eq_false (fun r => g2 r.2)).symm), rfl⟩
            · have g1' : ¬ (q : Int) < (n3 : Int) := by omega
              go_wp2_with fail
              go_meet
              exact ⟨congrArg Value.bool (by rw [← unhide HCB]; exact (decide_eq_false (fun r => g1 r.1)).symm), rfl⟩
          case rest =>
          obtain ⟨rfl, hwc⟩ := hcut
          subst wc
          cases cb with
          | true =>
            have hgo := of_decide_eq_true (unhide HCB)
            have j0 : (0 : Int) ≤ (q : Int) := by omega
            have j1 : (q : Int) < (n3 : Int) := by omega
            obtain ⟨gl, ol, rfl, hgl, hcl⟩ := (unhide HA3).2.1 q (by have := (unhide HA3).1; omega)
            have hcl' : wi.cell? ⟨gl, ol + q, none⟩ = some (.int .i64 (l3.getD q 0)) := by
              have hw := (unhide HX).1.bel.trans ((unhide HB).mono (unhide HX).1.bel.size)
              exact (hw.cell (p := ⟨gl, ol + q, none⟩) hgl).trans hcl
            generalize l3.getD q 0 = z at *
            have HPK := hide (fun (c : Int) (hc : I64 c) W => (pick6_any c P hgo.2 hc (P : Int) rfl W).mono (fun e w' (r : e = .returned (.int .i64 (pickP c P : Int)) ∧ w' = W) => (show ∃ v : Nat, v < P ∧ e = .returned (.int .i64 (v : Int)) ∧ w' = W from ⟨pickP c P, pickP_lt c P hgo.2, r.1, r.2⟩)))
            clear hgl hcl
            go_wp2_with fail
            refine (unhide HPK _ (by unfold I64 wrap64; omega) _).mono ?_
            rintro e w' ⟨v, hv, rfl, hw'⟩
            subst w'
            have HRA := hide (show (wi.alloc (.cells #[.int .i64 (v : Int)] 3)).ownsRow y0.heap.size 3 1 (.slice pv m cv) m (K.map (Value.int .i64)) from by have := owns_only (unhide HR) (Only.of_below (P := fun _ => False) ((Below.refl _ wi).alloc (Nat.le_refl _) (.cells #[.int .i64 (v : Int)] 3))) (fun _ _ q => q); rw [unhide HM] at this; exact this)
            have HXB := hide ((unhide HB).alloc (unhide HB).size (.cells #[.int .i64 (v : Int)] 3))
            go_wp2_with (refine wpList_append_own _ rfl (.tmp 92) (.tmp 101) 22 rfl y0.heap.size 3 i0 (.int .i64 0) 1 8 Tryz.underlying22 (unhide HI).1 (unhide HI).2.1 (unhide HI).2.2.1 (unhide HI).2.2.2 rfl (by decide) _ m (K.map (Value.int .i64)) rfl (unhide HRA) ⟨wi.heap.size, 0, none⟩ 1 1 [.int .i64 (v : Int)] rfl rfl (fun q u hu => news_one wi 3 _ q u hu) (by simp [Value.oneCell']) (by unfold maxLen; omega) (by omega) (unhide HXB).size ?_)
            intro v5 z5 ho5 hg5 _
            have HRR := hide (show AkI y0 P (q + 1) v5 z5 from by
              refine ⟨K ++ [(v : Int)], ?_, fun x hx => ?_, ?_, (unhide HXB).grown hg5 (unhide HXB).size (fun q hq => ((unhide HRA).lt q hq).1)⟩
              · simpa [unhide HM] using ho5
              · rcases List.mem_append.1 hx with r | r
                · exact unhide HK x r
                · simp at r
                  subst r
                  exact ⟨by omega, by omega⟩
              · simp [unhide HM]; omega)
            clear ho5 hg5 HRA HXB
            go_wp2
            go_roundw
            case rel => exact ⟨q + 1, by omega, by go_num, unhide HRR⟩
            case measure => simp [intOf]; omega
          | false =>
            have hKi := ints_own (unhide HR)
            have hD' := (unhide HX).1.below (unhide HB)
            have ZAC := hide (crashF hD' (by have := unhide HPE; omega) pv K m cv (unhide HM).symm hKi (by have := unhide HM; omega))
            obtain ⟨hce', I, hI, hcs⟩ := (unhide HX).2.1.crash K (by rw [unhide HPE]; exact unhide HK)
            rw [hce', hcs] at ZAC
            have HII := hide hI
            have HBV := hide (And.intro ((unhide HX).2.2.2.2.1.below (unhide HB) (unhide HX).2.2.2.2.1.lt) ((unhide HX).2.2.2.2.2.below (unhide HB) (unhide HX).2.2.2.2.2.lt))
            have HAC := hide (unhide HX).2.2.2.1
            generalize s.acts = A1 at *
            clear hKi hD' hce' hI hcs HR HK HB HM HPD HPE HX HCB
            go_wp2_with fail
            refine (unhide ZAC).mono ?_
            rintro ev y1 ⟨rfl, hD1, hO1⟩
            have HD1 := hide (And.intro hD1 (And.intro ((unhide HBV).1.only hO1 (fun q => q (.inl rfl))) ((unhide HBV).2.only hO1 (fun q => q (.inr rfl)))))
            clear hD1 hO1 ZAC HBV
            obtain ⟨cd, hcd⟩ : ∃ cd : Bool, decide (k < n4 ∧ k < 6) = cd := ⟨_, rfl⟩
            have HCD := hide hcd
            clear hcd
            have HPL := hide (fun W => pick6_any am 65 (by decide) (unhide HAM) 65 rfl W)
            have hkl := pickP_lt am 65 (by decide)
            generalize pickP am 65 = kp at *
            go_upto_region 29 with fail
            go_cut [115] (fun c wx => c = .bool cd ∧ wx = y1)
            case first =>
              by_cases g1 : k < n4
              · have g1' : (k : Int) < (n4 : Int) := by omega
                by_cases g2 : k < 6
                · have g2' : (k : Int) < 6 := by omega
                  go_wp2_with fail
                  go_meet
                  exact ⟨congrArg Value.bool (by rw [← unhide HCD]; exact (decide_eq_true ⟨g1, g2⟩).symm), rfl⟩
                · have g2' : ¬ (k : Int) < 6 := by omega
                  go_wp2_with fail
                  go_meet
                  exact ⟨congrArg Value.bool (by rw [← unhide HCD]; exact (decide_eq_false (fun r => g2 r.2)).symm), rfl⟩
              · have g1' : ¬ (k : Int) < (n4 : Int) := by omega
                go_wp2_with fail
                go_meet
                exact ⟨congrArg Value.bool (by rw [← unhide HCD]; exact (decide_eq_false (fun r => g1 r.1)).symm), rfl⟩
            case rest =>
            obtain ⟨rfl, hwc⟩ := hcut
            subst wc
            cases cd with
            | true =>
              have hgo := of_decide_eq_true (unhide HCD)
              have j0 : (0 : Int) ≤ (k : Int) := by omega
              have j1 : (k : Int) < (n4 : Int) := by omega
              have j6 : (k : Int) < 6 := by omega
              obtain ⟨gl, ol, rfl, hgl, hcl⟩ := (unhide HA4).2.1 k (by have := (unhide HA4).1; omega)
              have hcl' : y1.cell? ⟨gl, ol + k, none⟩ = some (.int .i64 (l4.getD k 0)) := ((unhide HD1).1.bel.cell (p := ⟨gl, ol + k, none⟩) hgl).trans hcl
              have HPM := hide (fun W => pick6_any (l4.getD k 0) 22 (by decide) ((unhide HA4).2.2 k) 22 rfl W)
              have hvl := pickP_lt (l4.getD k 0) 22 (by decide)
              generalize l4.getD k 0 = z4 at *
              generalize pickP z4 22 = v at *
              have ZAR := hide (armF (unhide HD1).1 (1 + (v : Int)) (by omega))
              rw [(arm_one I A1 v).1, (arm_one I A1 v).2] at ZAR
              clear hgl hcl
              go_wp2_with (go_at_call 10; refine (unhide HPM _).mono ?_; rintro e w' ⟨rfl, hw'⟩; subst w')
              refine (unhide ZAR).mono ?_
              rintro ev y2 ⟨rfl, hD2, hO2⟩
              have hG2 : ETy y2 := (unhide HG).below hD2.bel (unhide HG).lt
              have ZOP := hide (popenF hD2 hG2 (by omega) (unhide HII) (unhide HT2).1 (unhide HT2).2.2.2.1.len (by have := unhide HAC; omega) kp (by omega))
              have HD2 := hide (And.intro ((unhide HD1).2.1.only hO2 (fun q => q (.inl rfl))) ((unhide HD1).2.2.only hO2 (fun q => q (.inr rfl))))
              clear hD2 hO2 hG2 ZAR HD1 HPM hcl'
              go_wp2_with (go_at_call 10; refine (unhide HPL _).mono ?_; rintro e w' ⟨rfl, hw'⟩; subst w')
              refine (unhide ZOP).mono ?_
              rintro ev y4 ⟨pp, er, s4, rfl, hcase, hD4, hO4, hp4, ha4, hc4⟩
              have HD4 := hide (And.intro hD4 (And.intro hc4 (And.intro ((unhide HD2).1.only hO4 (fun q => q (.inl rfl))) ((unhide HD2).2.only hO4 (fun q => q (.inr rfl))))))
              clear hD4 hO4 hc4 HD2 ZOP
              rcases hcase with ⟨rfl, pb4, rfl⟩ | ⟨rfl, rfl, -⟩
              · clear hp4 ha4
                have hI0 : StA O T2 must s4.last := (unhide HD4).2.1 [] (fun p hp => by cases hp) (Nat.zero_le _)
                have HIM := hide (imageG (unhide HD4).1 hI0.len)
                have HI0 := hide hI0
                clear hI0
                go_wp2_with fail
                refine (unhide HIM).mono ?_
                rintro ev y5 ⟨g5, cap5, rfl, hS5, hb5⟩
                have HLD := hide (load128 y5 (some ⟨g5, 0, none⟩) cap5 s4.last (unhide HI0).len (unhide HI0).size hS5)
                have HBB := hide (And.intro ((unhide HD4).2.2.1.below hb5 (unhide HD4).2.2.1.lt) ((unhide HD4).2.2.2.below hb5 (unhide HD4).2.2.2.lt))
                have HBW := hide ((unhide HD4).1.bel.trans (hb5.mono (unhide HD4).1.bel.size))
                clear hS5 hb5 HIM
                go_wp2_with fail
                refine (unhide HLD).mono ?_
                rintro ev y6 ⟨cb5, v6, rfl, hD6, hb6⟩
                have hG6 : ETy y6 := by
                  have h6 := (unhide HBW).trans (hb6.mono (unhide HBW).size)
                  exact (unhide HG).below h6 (unhide HG).lt
                have HOP := hide (popenY hD6 hb6 hG6 (unhide HI0) (unhide HT2).1 (unhide HT2).2.2.2.1.len)
                clear hD6 hb6 hG6 HLD HI0
                go_wp2_with fail
                refine (unhide HOP).mono ?_
                rintro ev y7 ⟨jb7, pb7, S7, I7, A7, n7, rfl, K7, hSe7, hor⟩
                have Y0 := hide (show RdI y5 cb5 jb7 pb7 I7 A7 n7 y7 from ⟨S7, K7, hSe7⟩)
                have hl7 := hSe7.len
                clear K7 hSe7 HOP HD4
                rcases hor with ⟨hf, hm⟩ | hf
                · have HEQ := hide (show ∀ j, 19 ≤ j → j < 128 → I7.getD j ByteArray.empty = Ww.getD j ByteArray.empty from fun j h1 h2 => (hf j h1 (by omega)).trans ((unhide HT2).2.2.2.2.1 j h1 h2))
                  obtain rfl : ce = 2 := by
                    rcases (unhide HCE).1 with h | h
                    · have h2 := (unhide HCE).2
                      rw [hm, h] at h2
                      cases h2
                    · exact h
                  clear hf hm hl7
                  go_wp2
                  go_loopw [28, 29, 30] (fun o m i wr => ∃ (j : Nat) (mb : Bool), (19 ≤ j ∧ j ≤ 128) ∧ o = .bool true ∧ m = .bool mb ∧ i = .int .i64 (j : Int) ∧ RdI y5 cb5 jb7 pb7 I7 A7 n7 wr) (fun _ _ i _ => 128 - (intOf i).toNat)
                  case atStart => exact ⟨19, true, ⟨by omega, by omega⟩, rfl, rfl, rfl, unhide Y0⟩
                  case round =>
                    clear Y0
                    obtain ⟨j, mb, ⟨hj19, hj128⟩, rfl, rfl, rfl, S, K, hSe⟩ := hrel
                    obtain ⟨wz, rfl⟩ : ∃ wz, wz = wr := ⟨_, rfl⟩
                    by_cases hj : j < 128
                    · have e1 : (j : Int) < 128 := by omega
                      obtain ⟨s1, s2, s3, s4, s5⟩ := hSe.read j hj19 hj
                      have HC := hide (pread_any K (j : Int) (readT_rest hSe.rst j (by rw [hSe.len]; exact hj) hSe.siz))
                      rw [s1, s2] at HC
                      have HS := hide s3
                      clear s1 s2 s3 s4 s5 hSe K
                      generalize (readP S (j : Int)).2.2 = S9 at *
                      go_wp2_with fail
                      refine (unhide HC).mono ?_
                      rintro e z9 ⟨rfl, K9, -⟩
                      have B1 := (unhide HBB).1.below K9.bel (unhide HBB).1.lt
                      have B2 := (unhide HBB).2.below K9.bel (unhide HBB).2.lt
                      have cz1 : z9.cell? ⟨gw, j, none⟩ = some (.string (Ww.getD j ByteArray.empty)) := by rw [B1.cell]; simp [strs, List.getD_eq_getElem?_getD, (unhide HT2).2.2.2.2.2, hj]
                      have cz2 : z9.cell? ⟨gn, j, none⟩ = some (.string (Wn.getD j ByteArray.empty)) := by rw [B2.cell]; simp [strs, List.getD_eq_getElem?_getD, (unhide HT2).2.2.1, hj]
                      have HRR := hide (show RdI y5 cb5 jb7 pb7 I7 A7 n7 z9 from ⟨S9, K9, unhide HS⟩)
                      rw [unhide HEQ j hj19 hj] at *
                      generalize Ww.getD j ByteArray.empty = tw at *
                      generalize Wn.getD j ByteArray.empty = tn at *
                      have j0 : (0 : Int) ≤ (j : Int) := by omega
                      have hee : (tw.toList == tw.toList) = true := by simp
                      obtain ⟨bb, hbb⟩ : ∃ bb, (tw.toList == tn.toList) = bb := ⟨_, rfl⟩
                      clear K9 HC HS B1 B2
                      cases mb with
                      | true =>
                        go_wp2
                        go_roundw
                        case rel => exact ⟨j + 1, _, ⟨by omega, by omega⟩, rfl, rfl, by go_num, unhide HRR⟩
                        case measure => simp [intOf]; omega
                      | false =>
                        go_wp2
                        go_roundw
                        case rel => exact ⟨j + 1, _, ⟨by omega, by omega⟩, rfl, rfl, by go_num, unhide HRR⟩
                        case measure => simp [intOf]; omega
                    · have e1 : ¬ (j : Int) < 128 := by omega
                      have HF := hide ((unhide HBW).trans (K.bel.mono (unhide HBW).size))
                      clear hSe K
                      cases mb with
                      | true =>
                        go_wp2
                        go_ret
                        exact ⟨rfl, unhide HF⟩
                      | false =>
                        go_wp2
                        go_ret
                        exact ⟨rfl, unhide HF⟩
                · have HEQ := hide (show ∀ j, 19 ≤ j → j < 128 → I7.getD j ByteArray.empty = Wn.getD j ByteArray.empty from fun j h1 h2 => (hf j h1 (by omega)).trans ((unhide HT2).2.1 j h1 h2))
                  clear hf hl7
                  go_wp2
                  go_loopw [28, 29, 30] (fun o m i wr => ∃ (j : Nat) (mb : Bool), (19 ≤ j ∧ j ≤ 128) ∧ o = .bool mb ∧ m = .bool true ∧ i = .int .i64 (j : Int) ∧ RdI y5 cb5 jb7 pb7 I7 A7 n7 wr) (fun _ _ i _ => 128 - (intOf i).toNat)
                  case atStart => exact ⟨19, true, ⟨by omega, by omega⟩, rfl, rfl, rfl, unhide Y0⟩
                  case round =>
                    clear Y0
                    obtain ⟨j, mb, ⟨hj19, hj128⟩, rfl, rfl, rfl, S, K, hSe⟩ := hrel
                    obtain ⟨wz, rfl⟩ : ∃ wz, wz = wr := ⟨_, rfl⟩
                    by_cases hj : j < 128
                    · have e1 : (j : Int) < 128 := by omega
                      obtain ⟨s1, s2, s3, s4, s5⟩ := hSe.read j hj19 hj
                      have HC := hide (pread_any K (j : Int) (readT_rest hSe.rst j (by rw [hSe.len]; exact hj) hSe.siz))
                      rw [s1, s2] at HC
                      have HS := hide s3
                      clear s1 s2 s3 s4 s5 hSe K
                      generalize (readP S (j : Int)).2.2 = S9 at *
                      go_wp2_with fail
                      refine (unhide HC).mono ?_
                      rintro e z9 ⟨rfl, K9, -⟩
                      have B1 := (unhide HBB).1.below K9.bel (unhide HBB).1.lt
                      have B2 := (unhide HBB).2.below K9.bel (unhide HBB).2.lt
                      have cz1 : z9.cell? ⟨gw, j, none⟩ = some (.string (Ww.getD j ByteArray.empty)) := by rw [B1.cell]; simp [strs, List.getD_eq_getElem?_getD, (unhide HT2).2.2.2.2.2, hj]
                      have cz2 : z9.cell? ⟨gn, j, none⟩ = some (.string (Wn.getD j ByteArray.empty)) := by rw [B2.cell]; simp [strs, List.getD_eq_getElem?_getD, (unhide HT2).2.2.1, hj]
                      have HRR := hide (show RdI y5 cb5 jb7 pb7 I7 A7 n7 z9 from ⟨S9, K9, unhide HS⟩)
                      rw [unhide HEQ j hj19 hj] at *
                      generalize Ww.getD j ByteArray.empty = tw at *
                      generalize Wn.getD j ByteArray.empty = tn at *
                      have j0 : (0 : Int) ≤ (j : Int) := by omega
                      have hee : (tn.toList == tn.toList) = true := by simp
                      obtain ⟨bb, hbb⟩ : ∃ bb, (tn.toList == tw.toList) = bb := ⟨_, rfl⟩
                      clear K9 HC HS B1 B2
                      cases mb with
                      | true =>
                        go_wp2
                        go_roundw
                        case rel => exact ⟨j + 1, _, ⟨by omega, by omega⟩, rfl, rfl, by go_num, unhide HRR⟩
                        case measure => simp [intOf]; omega
                      | false =>
                        go_wp2
                        go_roundw
                        case rel => exact ⟨j + 1, _, ⟨by omega, by omega⟩, rfl, rfl, by go_num, unhide HRR⟩
                        case measure => simp [intOf]; omega
                    · have e1 : ¬ (j : Int) < 128 := by omega
                      have HF := hide ((unhide HBW).trans (K.bel.mono (unhide HBW).size))
                      clear hSe K
                      cases mb with
                      | true =>
                        go_wp2
                        go_ret
                        exact ⟨rfl, unhide HF⟩
                      | false =>
                        go_wp2
                        go_ret
                        exact ⟨rfl, unhide HF⟩
              · have n1k : ¬ (n4 : Int) ≤ (k : Int) := by omega
                have n2k : ¬ (6 : Int) ≤ (k : Int) := by omega
                have HRR := hide (show AlR w b gw gn O T2 must Ww Wn (k + 1) y4 from ⟨s4, (unhide HD4).1, (unhide HD4).2.1, hp4, by have := unhide HAC; omega, (unhide HD4).2.2.1, (unhide HD4).2.2.2⟩)
                clear HD4 hp4 ha4
                go_wp2
                go_roundw
                case rel => exact ⟨rfl, k + 1, ⟨by omega, by omega⟩, by go_num, unhide HRR⟩
                case measure => simp [intOf]; omega
            | false =>
              have hG2 : ETy y1 := (unhide HG).below (unhide HD1).1.bel (unhide HG).lt
              have ZOP := hide (popenF (f := 0) (unhide HD1).1 hG2 (by omega) (unhide HII) (unhide HT2).1 (unhide HT2).2.2.2.1.len (by have := unhide HAC; omega) kp (by omega))
              clear hG2
              go_wp2_with (go_at_call 10; refine (unhide HPL _).mono ?_; rintro e w' ⟨rfl, hw'⟩; subst w')
              refine (unhide ZOP).mono ?_
              rintro ev y4 ⟨pp, er, s4, rfl, hcase, hD4, hO4, -, -, hc4⟩
              have HD4 := hide (And.intro hD4 (And.intro hc4 (And.intro ((unhide HD1).2.1.only hO4 (fun q => q (.inl rfl))) ((unhide HD1).2.2.only hO4 (fun q => q (.inr rfl))))))
              clear hD4 hO4 hc4 HD1 ZOP
              rcases hcase with ⟨rfl, pb4, rfl⟩ | ⟨-, -, hbad⟩
              · skip
                have hI0 : StA O T2 must s4.last := (unhide HD4).2.1 [] (fun p hp => by cases hp) (Nat.zero_le _)
                have HIM := hide (imageG (unhide HD4).1 hI0.len)
                have HI0 := hide hI0
                clear hI0
                go_wp2_with fail
                refine (unhide HIM).mono ?_
                rintro ev y5 ⟨g5, cap5, rfl, hS5, hb5⟩
                have HLD := hide (load128 y5 (some ⟨g5, 0, none⟩) cap5 s4.last (unhide HI0).len (unhide HI0).size hS5)
                have HBB := hide (And.intro ((unhide HD4).2.2.1.below hb5 (unhide HD4).2.2.1.lt) ((unhide HD4).2.2.2.below hb5 (unhide HD4).2.2.2.lt))
                have HBW := hide ((unhide HD4).1.bel.trans (hb5.mono (unhide HD4).1.bel.size))
                clear hS5 hb5 HIM
                go_wp2_with fail
                refine (unhide HLD).mono ?_
                rintro ev y6 ⟨cb5, v6, rfl, hD6, hb6⟩
                have hG6 : ETy y6 := by
                  have h6 := (unhide HBW).trans (hb6.mono (unhide HBW).size)
                  exact (unhide HG).below h6 (unhide HG).lt
                have HOP := hide (popenY hD6 hb6 hG6 (unhide HI0) (unhide HT2).1 (unhide HT2).2.2.2.1.len)
                clear hD6 hb6 hG6 HLD HI0
                go_wp2_with fail
                refine (unhide HOP).mono ?_
                rintro ev y7 ⟨jb7, pb7, S7, I7, A7, n7, rfl, K7, hSe7, hor⟩
                have Y0 := hide (show RdI y5 cb5 jb7 pb7 I7 A7 n7 y7 from ⟨S7, K7, hSe7⟩)
                have hl7 := hSe7.len
                clear K7 hSe7 HOP HD4
                rcases hor with ⟨hf, hm⟩ | hf
                · have HEQ := hide (show ∀ j, 19 ≤ j → j < 128 → I7.getD j ByteArray.empty = Ww.getD j ByteArray.empty from fun j h1 h2 => (hf j h1 (by omega)).trans ((unhide HT2).2.2.2.2.1 j h1 h2))
                  obtain rfl : ce = 2 := by
                    rcases (unhide HCE).1 with h | h
                    · have h2 := (unhide HCE).2
                      rw [hm, h] at h2
                      cases h2
                    · exact h
                  clear hf hm hl7
                  go_wp2
                  go_loopw [28, 29, 30] (fun o m i wr => ∃ (j : Nat) (mb : Bool), (19 ≤ j ∧ j ≤ 128) ∧ o = .bool true ∧ m = .bool mb ∧ i = .int .i64 (j : Int) ∧ RdI y5 cb5 jb7 pb7 I7 A7 n7 wr) (fun _ _ i _ => 128 - (intOf i).toNat)
                  case atStart => exact ⟨19, true, ⟨by omega, by omega⟩, rfl, rfl, rfl, unhide Y0⟩
                  case round =>
                    clear Y0
                    obtain ⟨j, mb, ⟨hj19, hj128⟩, rfl, rfl, rfl, S, K, hSe⟩ := hrel
                    obtain ⟨wz, rfl⟩ : ∃ wz, wz = wr := ⟨_, rfl⟩
                    by_cases hj : j < 128
                    · have e1 : (j : Int) < 128 := by omega
                      obtain ⟨s1, s2, s3, s4, s5⟩ := hSe.read j hj19 hj
                      have HC := hide (pread_any K (j : Int) (readT_rest hSe.rst j (by rw [hSe.len]; exact hj) hSe.siz))
                      rw [s1, s2] at HC
                      have HS := hide s3
                      clear s1 s2 s3 s4 s5 hSe K
                      generalize (readP S (j : Int)).2.2 = S9 at *
                      go_wp2_with fail
                      refine (unhide HC).mono ?_
                      rintro e z9 ⟨rfl, K9, -⟩
                      have B1 := (unhide HBB).1.below K9.bel (unhide HBB).1.lt
                      have B2 := (unhide HBB).2.below K9.bel (unhide HBB).2.lt
                      have cz1 : z9.cell? ⟨gw, j, none⟩ = some (.string (Ww.getD j ByteArray.empty)) := by rw [B1.cell]; simp [strs, List.getD_eq_getElem?_getD, (unhide HT2).2.2.2.2.2, hj]
                      have cz2 : z9.cell? ⟨gn, j, none⟩ = some (.string (Wn.getD j ByteArray.empty)) := by rw [B2.cell]; simp [strs, List.getD_eq_getElem?_getD, (unhide HT2).2.2.1, hj]
                      have HRR := hide (show RdI y5 cb5 jb7 pb7 I7 A7 n7 z9 from ⟨S9, K9, unhide HS⟩)
                      rw [unhide HEQ j hj19 hj] at *
                      generalize Ww.getD j ByteArray.empty = tw at *
                      generalize Wn.getD j ByteArray.empty = tn at *
                      have j0 : (0 : Int) ≤ (j : Int) := by omega
                      have hee : (tw.toList == tw.toList) = true := by simp
                      obtain ⟨bb, hbb⟩ : ∃ bb, (tw.toList == tn.toList) = bb := ⟨_, rfl⟩
                      clear K9 HC HS B1 B2
                      cases mb with
                      | true =>
                        go_wp2
                        go_roundw
                        case rel => exact ⟨j + 1, _, ⟨by omega, by omega⟩, rfl, rfl, by go_num, unhide HRR⟩
                        case measure => simp [intOf]; omega
                      | false =>
                        go_wp2
                        go_roundw
                        case rel => exact ⟨j + 1, _, ⟨by omega, by omega⟩, rfl, rfl, by go_num, unhide HRR⟩
                        case measure => simp [intOf]; omega
                    · have e1 : ¬ (j : Int) < 128 := by omega
                      have HF := hide ((unhide HBW).trans (K.bel.mono (unhide HBW).size))
                      clear hSe K
                      cases mb with
                      | true =>
                        go_wp2
                        go_ret
                        exact ⟨rfl, unhide HF⟩
                      | false =>
                        go_wp2
                        go_ret
                        exact ⟨rfl, unhide HF⟩
                · have HEQ := hide (show ∀ j, 19 ≤ j → j < 128 → I7.getD j ByteArray.empty = Wn.getD j ByteArray.empty from fun j h1 h2 => (hf j h1 (by omega)).trans ((unhide HT2).2.1 j h1 h2))
                  clear hf hl7
                  go_wp2
                  go_loopw [28, 29, 30] (fun o m i wr => ∃ (j : Nat) (mb : Bool), (19 ≤ j ∧ j ≤ 128) ∧ o = .bool mb ∧ m = .bool true ∧ i = .int .i64 (j : Int) ∧ RdI y5 cb5 jb7 pb7 I7 A7 n7 wr) (fun _ _ i _ => 128 - (intOf i).toNat)
                  case atStart => exact ⟨19, true, ⟨by omega, by omega⟩, rfl, rfl, rfl, unhide Y0⟩
                  case round =>
                    clear Y0
                    obtain ⟨j, mb, ⟨hj19, hj128⟩, rfl, rfl, rfl, S, K, hSe⟩ := hrel
                    obtain ⟨wz, rfl⟩ : ∃ wz, wz = wr := ⟨_, rfl⟩
                    by_cases hj : j < 128
                    · have e1 : (j : Int) < 128 := by omega
                      obtain ⟨s1, s2, s3, s4, s5⟩ := hSe.read j hj19 hj
                      have HC := hide (pread_any K (j : Int) (readT_rest hSe.rst j (by rw [hSe.len]; exact hj) hSe.siz))
                      rw [s1, s2] at HC
                      have HS := hide s3
                      clear s1 s2 s3 s4 s5 hSe K
                      generalize (readP S (j : Int)).2.2 = S9 at *
                      go_wp2_with fail
                      refine (unhide HC).mono ?_
                      rintro e z9 ⟨rfl, K9, -⟩
                      have B1 := (unhide HBB).1.below K9.bel (unhide HBB).1.lt
                      have B2 := (unhide HBB).2.below K9.bel (unhide HBB).2.lt
                      have cz1 : z9.cell? ⟨gw, j, none⟩ = some (.string (Ww.getD j ByteArray.empty)) := by rw [B1.cell]; simp [strs, List.getD_eq_getElem?_getD, (unhide HT2).2.2.2.2.2, hj]
                      have cz2 : z9.cell? ⟨gn, j, none⟩ = some (.string (Wn.getD j ByteArray.empty)) := by rw [B2.cell]; simp [strs, List.getD_eq_getElem?_getD, (unhide HT2).2.2.1, hj]
                      have HRR := hide (show RdI y5 cb5 jb7 pb7 I7 A7 n7 z9 from ⟨S9, K9, unhide HS⟩)
                      rw [unhide HEQ j hj19 hj] at *
                      generalize Ww.getD j ByteArray.empty = tw at *
                      generalize Wn.getD j ByteArray.empty = tn at *
                      have j0 : (0 : Int) ≤ (j : Int) := by omega
                      have hee : (tn.toList == tn.toList) = true := by simp
                      obtain ⟨bb, hbb⟩ : ∃ bb, (tn.toList == tw.toList) = bb := ⟨_, rfl⟩
                      clear K9 HC HS B1 B2
                      cases mb with
                      | true =>
                        go_wp2
                        go_roundw
                        case rel => exact ⟨j + 1, _, ⟨by omega, by omega⟩, rfl, rfl, by go_num, unhide HRR⟩
                        case measure => simp [intOf]; omega
                      | false =>
                        go_wp2
                        go_roundw
                        case rel => exact ⟨j + 1, _, ⟨by omega, by omega⟩, rfl, rfl, by go_num, unhide HRR⟩
                        case measure => simp [intOf]; omega
                    · have e1 : ¬ (j : Int) < 128 := by omega
                      have HF := hide ((unhide HBW).trans (K.bel.mono (unhide HBW).size))
                      clear hSe K
                      cases mb with
                      | true =>
                        go_wp2
                        go_ret
                        exact ⟨rfl, unhide HF⟩
                      | false =>
                        go_wp2
                        go_ret
                        exact ⟨rfl, unhide HF⟩
              · exact absurd hbad (by decide)
end Go.Proofs.YtnkaooafenakdaaGreatDoor
