import Derived.Test.YtclgkgaobjcifaaGreatDoorMy27
import Derived.Test.YtclgkgaobjcifaaGreatDoorMy19
import Derived.Test.YtclgkgaobjcifaaGreatDoorMy08
import Derived.Deep.DeepCutAuto
import Derived.Test.YtclgkgaobjcifaaGreatDoorCards
import Derived.Test.YtclgkgaobjcifaaGreatDoorTie
import Derived.ProofKit
import Derived.OpenShut
import Derived.ShutString
import Derived.SizedLaws
import Derived.Deep.DeepHandedRow
import Derived.LaidLaws
import Derived.LaidHandle
import Derived.Lib.LaidTab
import Derived.Deep.Slices
import Derived.Deep.Strs
import Derived.Lib.SmallJoins
import Derived.Test.YtclgkgaobjcifaaGreatDoorMy12
namespace Go.Proofs.YtclgkgaobjcifaaGreatDoor
open Go.RowKit
set_option maxRecDepth 100000
theorem gd_one {k : Nat} {r : Rep} {V Pl : List Int} (h : GdP k ⟨r, V, Pl⟩) : encE (k : Int) r V Pl = 0 ∧ encS (k : Int) r V Pl = encF (k : Int) r V Pl := by
  obtain ⟨hk, h1, h2, _⟩ := h
  have hg : encG (k : Int) r V Pl = true := by rw [encG, decide_eq_true h1, h2]; rfl
  have hk2 : (0 : Int) ≤ (k : Int) ∧ (k : Int) ≤ 12 := by omega
  exact ⟨by rw [encE, if_pos hk2, if_pos hg], by rw [encS, if_pos hk2, if_pos hg]⟩
theorem wrap_I64 (x : Int) : I64 (IntKind.i64.wrap x) := by
  unfold I64
  simp only [IntKind.wrap, IntKind.signed, IntKind.bits]
  simp
  omega
set_option maxHeartbeats 16000000 in
theorem own12 (x0 a b x4 : Int) (h0 : I64 x0) (ha : I64 a) (hb : I64 b) (p : Option Addr) (n c : Nat) (L : List Int) (hn : L.length = n) (w : World) (hL : Lst w w.heap.size p L) (hI : ∀ j, I64 (L.getD j 0)) (hn9 : n ≤ 17592186044400) (s : ByteArray) (hs : s.size ≤ 140737488351232) (hE : ETy w) :
    Calls Tryz.prog 6 #[.int .i64 x0, .int .i64 a, .int .i64 b, .slice p n c, .int .i64 x4, .string s] w fun e w' => e = .returned (.bool true) ∧ Below w.heap.size w w' := by
  have HK := hide (known12_any w)
  have HP := hide (fun W => pick12_any x0 3 (by decide) h0 3 rfl W)
  have hq3 := pickP_lt x0 3 (by decide)
  generalize pickP x0 3 = q at *
  obtain ⟨g, hg⟩ : ∃ g, w.heap.size = g := ⟨_, rfl⟩
  have HEW := hide (fun W (q : Below g w W) => hE.below q (by rw [← hg]; exact hE.lt))
  have HLW := hide (fun W (q : Below g w W) => (show Lst W W.heap.size p L from ((hg ▸ hL).below q).mono (by rw [← hg]; exact q.size)))
  have HR1 := hide (fun k (hk : k ≤ 12) st (hst : I64 st) W (q : Lst W W.heap.size p L) => reply12_any (w := W) k st a b hst ha hb p n c L hn q hI (by omega) s hs hk)
  obtain ⟨a1, ha1⟩ : ∃ z, IntKind.i64.wrap (a + 1) = z := ⟨_, rfl⟩
  obtain ⟨n2, hn2⟩ : ∃ z, n + 2 = z := ⟨_, rfl⟩
  have HN2 := hide hn2
  have HR2 := hide (fun k (hk : k ≤ 12) st (hst : I64 st) W p' c' (q : Lst W W.heap.size p' (a :: b :: L)) => reply12_any (w := W) k st b a1 hst hb (by rw [← ha1]; exact wrap_I64 _) p' n2 c' (a :: b :: L) (by simp; omega) q (fun j => by
    match j with
    | 0 => exact ha
    | 1 => exact hb
    | j + 2 => exact hI j) (by omega) s hs hk)
  have HLN := hide (And.intro hn hn9)
  have HQ3 := hide hq3
  rw [hg]
  clear hL hI hn hn9 hE h0 ha hb hs hn2 hq3
  go_enter Tryz.func6, Tryz.ntmps6
  go_wp2_with fail
  refine (unhide HK).mono ?_
  rintro e x1 ⟨rfl, hx1⟩
  have Hx1 := hide (show Below g w x1 ∧ g ≤ x1.heap.size from ⟨hg ▸ hx1, by rw [← hg]; exact hx1.size⟩)
  clear hx1 HK
  go_upto_region 2 with fail
  go_cut [14] (fun s14 wx => ∃ k : Nat, s14 = .int .i64 (k : Int) ∧ k ≤ 12 ∧ Below g w wx ∧ g ≤ wx.heap.size)
  case first =>
    have B1 := hide (Blk.new x1 3 #[.int .i64 3, .int .i64 6, .int .i64 8])
    have HB1 := hide (show Below g w (x1.alloc (.cells #[.int .i64 3, .int .i64 6, .int .i64 8] 3)) ∧ g ≤ (x1.alloc (.cells #[.int .i64 3, .int .i64 6, .int .i64 8] 3)).heap.size from ⟨(unhide Hx1).1.alloc (unhide Hx1).2 _, by rw [World.size_alloc]; have := (unhide Hx1).2; omega⟩)
    obtain ⟨g3, hg3⟩ : ∃ z, x1.heap.size = z := ⟨_, rfl⟩
    rw [hg3] at B1
    obtain ⟨x2, hx2⟩ : ∃ Z, x1.alloc (.cells #[.int .i64 3, .int .i64 6, .int .i64 8] 3) = Z := ⟨_, rfl⟩
    rw [hx2] at B1 HB1
    go_wp2_with fail
    refine (unhide HP _).mono ?_
    rintro e y ⟨rfl, hy⟩
    subst y
    (try rw [hx2])
    have hq := unhide HQ3
    obtain ⟨z, hz, hz2⟩ : ∃ z : Nat, x2.cell? ⟨g3, q, none⟩ = some (.int .i64 (z : Int)) ∧ z ≤ 12 := by
      have h1 := (unhide B1).cell q
      rcases (show q = 0 ∨ q = 1 ∨ q = 2 by omega) with rfl | rfl | rfl
      · exact ⟨3, h1, by omega⟩
      · exact ⟨6, h1, by omega⟩
      · exact ⟨8, h1, by omega⟩
    have i0 : 0 ≤ (q : Int) := by omega
    have i1 : (q : Int) < 3 := by omega
    go_wp2_with fail
    go_meet
    exact ⟨z, rfl, hz2, unhide HB1⟩
  case rest =>
    obtain ⟨k, rfl, hk, hbx, hgx⟩ := hcut
    obtain ⟨x2, rfl⟩ : ∃ Z, Z = wc := ⟨_, rfl⟩
    have Hx2 := hide (And.intro hbx hgx)
    have HKK := hide hk
    clear hbx hgx hk Hx1 HP HQ3
    go_upto_if 45 with fail
    go_cut [15] (fun s15 wx => ∃ st : Int, s15 = .int .i64 st ∧ I64 st ∧ wx = x2)
    case first =>
      by_cases h8 : (k : Int) = 8
      · go_wp2_with fail
        go_meet
        exact ⟨1, rfl, by constructor <;> omega, rfl⟩
      · go_wp2_with fail
        go_meet
        exact ⟨0, rfl, by constructor <;> omega, rfl⟩
    case rest =>
      obtain ⟨st, rfl, hst, rfl⟩ := hcut
      obtain ⟨x2, rfl⟩ : ∃ Z, Z = wc := ⟨_, rfl⟩
      have HST := hide hst
      clear hst

      go_wp2_with fail
      refine (unhide HR1 k (unhide HKK) st (unhide HST) _ (unhide HLW _ (unhide Hx2).1)).mono ?_
      rintro e x3 ⟨⟨r1, V1, P1, rfl, hG1⟩, hx3⟩
      have Hx3 := hide (show Below g w x3 ∧ g ≤ x3.heap.size ∧ True from ⟨(unhide Hx2).1.trans (hx3.mono (unhide Hx2).2), Nat.le_trans (unhide Hx2).2 hx3.size, trivial⟩)
      obtain ⟨N1, N2, N3, N4⟩ := boxv x3 34 #[.int .i64 0, .int .i64 0, .int .i64 0, .slice none 0 0, .int .i64 0, .slice none 0 0, .string ⟨#[]⟩, .string ⟨#[]⟩] (r1.cs) g w (unhide Hx3).1 (unhide Hx3).2.1
      obtain ⟨b1, hb1⟩ : ∃ h, x3.heap.size = h := ⟨_, rfl⟩
      obtain ⟨z1, hz1⟩ : ∃ Z, x3.alloc (.cells #[.int .i64 0, .int .i64 0, .int .i64 0, .slice none 0 0, .int .i64 0, .slice none 0 0, .string ⟨#[]⟩, .string ⟨#[]⟩] 34) = Z := ⟨_, rfl⟩
      rw [hz1, hb1] at N1 N2 N4
      rw [hz1] at N3
      have N3' : Below x3.heap.size x3 (z1.setRow b1 (r1.cs)) := by rw [← hb1]; exact N3
      have HZb1 := hide N1
      obtain ⟨q1, hq1⟩ : ∃ Z, z1.setRow b1 (r1.cs) = Z := ⟨_, rfl⟩
      rw [hq1] at N2 N3' N4
      obtain ⟨T1, hT1⟩ : ∃ z, x3.heap.size = z := ⟨_, rfl⟩
      have Hq1 := hide (show Below g w q1 ∧ g ≤ q1.heap.size ∧ Blk q1 b1 r1.cs 34 ∧ T1 ≤ q1.heap.size ∧ Lst q1 T1 r1.vp V1 ∧ Lst q1 T1 r1.pp P1 from ⟨N4, Nat.le_trans (unhide Hx3).2.1 N3'.size, N2, by rw [← hT1]; exact N3'.size, by rw [← hT1]; exact hG1.lv.below N3', by rw [← hT1]; exact hG1.lp.below N3'⟩)
      have HA1 := hide (hG1.gd (unhide HKK))
      have HO1 := hide (Rep.one r1)
      clear N1 N2 N3 N3' N4 hx3 hG1 Hx2 Hx3 HR1 hT1

      have HB2 := hide (Blk.new q1 3 #[.int .i64 a, .int .i64 b])
      have HQ1S := hide (show Below g w (q1.alloc (.cells #[.int .i64 a, .int .i64 b] 3)) ∧ Below q1.heap.size q1 (q1.alloc (.cells #[.int .i64 a, .int .i64 b] 3)) from ⟨(unhide Hq1).1.alloc (unhide Hq1).2.1 _, (Below.refl _ _).alloc (Nat.le_refl _) _⟩)
      obtain ⟨g2, hg2⟩ : ∃ z, q1.heap.size = z := ⟨_, rfl⟩
      obtain ⟨q2, hq2⟩ : ∃ Z, q1.alloc (.cells #[.int .i64 a, .int .i64 b] 3) = Z := ⟨_, rfl⟩
      rw [hg2, hq2] at HB2
      rw [hq2] at HQ1S
      have HL2 := hide (unhide HLW q2 (unhide HQ1S).1)
      go_wp2_with (first | refine wpList_store_row rfl 34 (.tmp 16) (.tmp 52) rfl b1 r1.cs rfl rfl 34 #[.int .i64 0, .int .i64 0, .int .i64 0, .slice none 0 0, .int .i64 0, .slice none 0 0, .string ⟨#[]⟩, .string ⟨#[]⟩] (unhide HZb1) size_rep rfl (unhide HO1) ?_ | refine wpList_app2 rfl (.tmp 60) (.tmp 61) rfl g2 a b rfl (unhide HB2) p n c rfl L (unhide HLN).1 (unhide HL2) (unhide HLN).2 n2 (unhide HN2) (fun _ => rfl) ?_)
      intro p' c' q3 hL3 hb3 hs3
      have Hq3 := hide (show Below g w q3 ∧ g ≤ q3.heap.size ∧ Blk q3 b1 r1.cs 34 ∧ T1 ≤ q3.heap.size ∧ Lst q3 T1 r1.vp V1 ∧ Lst q3 T1 r1.pp P1 from by
        obtain ⟨a1, a2, a3, a4, a5, a6⟩ := unhide Hq1
        have a7 := a3.lt
        have a8 := (unhide HQ1S).2
        have a9 : Below q1.heap.size q1 q3 := a8.trans (by rw [hg2]; exact hb3)
        exact ⟨a1.trans (a9.mono a2), Nat.le_trans a2 a9.size, a3.below a9 a7, Nat.le_trans a4 a9.size, a5.below (a9.mono a4), a6.below (a9.mono a4)⟩)
      have HL3 := hide hL3
      clear hL3 hb3 hs3 HB2 HQ1S HL2 Hq1 hq2 hg2 HZb1
      go_wp2_with fail
      refine (unhide HR2 k (unhide HKK) st (unhide HST) _ p' c' (unhide HL3)).mono ?_
      rintro e x4' ⟨⟨r2, V2, P2, rfl, hG2⟩, hx4⟩
      have Hx4 := hide (show Below g w x4' ∧ g ≤ x4'.heap.size ∧ Blk x4' b1 r1.cs 34 ∧ T1 ≤ x4'.heap.size ∧ Lst x4' T1 r1.vp V1 ∧ Lst x4' T1 r1.pp P1 from by
        obtain ⟨a1, a2, a3, a4, a5, a6⟩ := unhide Hq3
        exact ⟨a1.trans (hx4.mono a2), Nat.le_trans a2 hx4.size, a3.below hx4 a3.lt, Nat.le_trans a4 hx4.size, a5.below (hx4.mono a4), a6.below (hx4.mono a4)⟩)
      obtain ⟨N1, N2, N3, N4⟩ := boxv x4' 34 #[.int .i64 0, .int .i64 0, .int .i64 0, .slice none 0 0, .int .i64 0, .slice none 0 0, .string ⟨#[]⟩, .string ⟨#[]⟩] (r2.cs) g w (unhide Hx4).1 (unhide Hx4).2.1
      obtain ⟨b2, hb2⟩ : ∃ h, x4'.heap.size = h := ⟨_, rfl⟩
      obtain ⟨z2, hz2⟩ : ∃ Z, x4'.alloc (.cells #[.int .i64 0, .int .i64 0, .int .i64 0, .slice none 0 0, .int .i64 0, .slice none 0 0, .string ⟨#[]⟩, .string ⟨#[]⟩] 34) = Z := ⟨_, rfl⟩
      rw [hz2, hb2] at N1 N2 N4
      rw [hz2] at N3
      have N3' : Below x4'.heap.size x4' (z2.setRow b2 (r2.cs)) := by rw [← hb2]; exact N3
      have HZb2 := hide N1
      obtain ⟨q4, hq4⟩ : ∃ Z, z2.setRow b2 (r2.cs) = Z := ⟨_, rfl⟩
      rw [hq4] at N2 N3' N4
      obtain ⟨T2, hT2⟩ : ∃ z, x4'.heap.size = z := ⟨_, rfl⟩
      have Hq4 := hide (show Below g w q4 ∧ g ≤ q4.heap.size ∧ Blk q4 b1 r1.cs 34 ∧ Blk q4 b2 r2.cs 34 ∧ T2 ≤ q4.heap.size ∧ Lst q4 T2 r1.vp V1 ∧ Lst q4 T2 r1.pp P1 ∧ Lst q4 T2 r2.vp V2 ∧ Lst q4 T2 r2.pp P2 from by
        obtain ⟨a1, a2, a3, a4, a5, a6⟩ := unhide Hx4
        rw [← hT2]
        exact ⟨N4, Nat.le_trans a2 N3'.size, a3.below N3' a3.lt, N2, N3'.size, (a5.mono a4).below N3', (a6.mono a4).below N3', hG2.lv.below N3', hG2.lp.below N3'⟩)
      have HA2 := hide (hG2.gd (unhide HKK))
      have HO2 := hide (Rep.one r2)
      have HRG1 := hide (show q4.rangeAt b1 0 r1.cl from blk_range (unhide Hq4).2.2.1)
      clear N1 N2 N3 N3' N4 hx4 hG2 Hx4 Hq3 HR2 HL3 hT2
      have HE1 := hide (fun W (hW : Below T2 q4 W) => encR_any (k : Int) r1 V1 P1 (unhide HA1).2.2.2.1 (unhide HA1).2.2.2.2.1 (by have h : r1.vm ≤ 8 ∧ r1.pm ≤ 8 := (unhide HA1).2.2.2.2.2; omega) W (((unhide Hq4).2.2.2.2.2.1.below hW).mono (Nat.le_trans (unhide Hq4).2.2.2.2.1 hW.size)) (((unhide Hq4).2.2.2.2.2.2.1.below hW).mono (Nat.le_trans (unhide Hq4).2.2.2.2.1 hW.size)))
      have HE2 := hide (fun W (hW : Below T2 q4 W) => encR_any (k : Int) r2 V2 P2 (unhide HA2).2.2.2.1 (unhide HA2).2.2.2.2.1 (by have h : r2.vm ≤ 8 ∧ r2.pm ≤ 8 := (unhide HA2).2.2.2.2.2; omega) W (((unhide Hq4).2.2.2.2.2.2.2.1.below hW).mono (Nat.le_trans (unhide Hq4).2.2.2.2.1 hW.size)) (((unhide Hq4).2.2.2.2.2.2.2.2.below hW).mono (Nat.le_trans (unhide Hq4).2.2.2.2.1 hW.size)))
      rw [(gd_one (unhide HA1)).1, (gd_one (unhide HA1)).2] at HE1
      rw [(gd_one (unhide HA2)).1, (gd_one (unhide HA2)).2] at HE2
      go_wp2_with (first | refine wpList_store_row rfl 34 (.tmp 17) (.tmp 64) rfl b2 r2.cs rfl rfl 34 #[.int .i64 0, .int .i64 0, .int .i64 0, .slice none 0 0, .int .i64 0, .slice none 0 0, .string ⟨#[]⟩, .string ⟨#[]⟩] (unhide HZb2) size_rep rfl (unhide HO2) ?_ | refine wpList_load_mid rfl 34 (.tmp 16) rfl b1 0 rfl r1.cl _ (unhide HRG1) Tryz.underlying34 rfl size_rep ?_)
      refine (unhide HE1 _ (Below.refl _ _)).mono ?_
      rintro e q5 ⟨rfl, hq5⟩
      have Hq5 := hide (show Below T2 q4 q5 from hq5.mono (unhide Hq4).2.2.2.2.1)
      have HRG2 := hide (show q5.rangeAt b2 0 r2.cl from blk_range ((unhide Hq4).2.2.2.1.below hq5 (unhide Hq4).2.2.2.1.lt))
      have HQ45 := hide hq5
      clear hq5 HRG1 HZb2
      go_wp2_with (first | refine wpList_load_mid rfl 34 (.tmp 17) rfl b2 0 rfl r2.cl _ (unhide HRG2) Tryz.underlying34 rfl size_rep ?_)
      refine (unhide HE2 _ (unhide Hq5)).mono ?_
      rintro e q6 ⟨rfl, hq6⟩
      have HQ46 := hide (show Below q4.heap.size q4 q6 from (unhide HQ45).trans (hq6.mono (unhide HQ45).size))
      obtain ⟨A, hA⟩ : ∃ A : Rp, A = ⟨r1, V1, P1⟩ := ⟨_, rfl⟩
      obtain ⟨B, hB⟩ : ∃ B : Rp, B = ⟨r2, V2, P2⟩ := ⟨_, rfl⟩
      obtain ⟨tx, htx⟩ : ∃ z, encF (k : Int) r1 V1 P1 = z := ⟨_, rfl⟩
      obtain ⟨ty, hty⟩ : ∃ z, encF (k : Int) r2 V2 P2 = z := ⟨_, rfl⟩
      rw [htx, hty]
      clear hq6 HRG2 HQ45 Hq5 HE1 HE2
      have HRH1 := hide (show ∀ W, Below q6.heap.size q6 W → W.rangeAt b1 0 r1.cl ∧ W.rangeAt b2 0 r2.cl from fun W hW => by
        obtain ⟨a1, a2, a3, a4, a5⟩ := unhide Hq4
        have h6 := a3.below (unhide HQ46) a3.lt
        have h7 := a4.below (unhide HQ46) a4.lt
        exact ⟨blk_range (h6.below hW h6.lt), blk_range (h7.below hW h7.lt)⟩)
      have HT5 := hide (Blk.new q6 9 #[.string tx, .string tx, .string ty, .string tx, .string ty])
      have HX5 := hide (show Below q6.heap.size q6 (q6.alloc (.cells #[.string tx, .string tx, .string ty, .string tx, .string ty] 9)) from (Below.refl _ _).alloc (Nat.le_refl _) _)
      obtain ⟨gt, hgt⟩ : ∃ z, q6.heap.size = z := ⟨_, rfl⟩
      obtain ⟨q7, hq7⟩ : ∃ Z, q6.alloc (.cells #[.string tx, .string tx, .string ty, .string tx, .string ty] 9) = Z := ⟨_, rfl⟩
      rw [hq7, hgt] at HT5
      rw [hq7] at HX5
      have HW5 := hide (Blk.new q7 34 (five r1 r2).toArray)
      have HX6 := hide (show Below q7.heap.size q7 (q7.alloc (.cells (five r1 r2).toArray 34)) from (Below.refl _ _).alloc (Nat.le_refl _) _)
      obtain ⟨gw, hgw⟩ : ∃ z, q7.heap.size = z := ⟨_, rfl⟩
      obtain ⟨X, hX⟩ : ∃ Z, q7.alloc (.cells (five r1 r2).toArray 34) = Z := ⟨_, rfl⟩
      rw [hX, hgw] at HW5
      rw [hX] at HX6
      have HRA := hide ((unhide HRH1 q7 (unhide HX5)).1)
      have HRB := hide ((unhide HRH1 q7 (unhide HX5)).2)
      obtain ⟨T0, hT0⟩ : ∃ z, X.heap.size = z := ⟨_, rfl⟩
      have HTX := hide (show A.tx k = tx ∧ B.tx k = ty from by rw [hA, hB]; exact ⟨htx, hty⟩)
      have HGA := hide (show GdP k A ∧ GdP k B from by rw [hA, hB]; exact ⟨unhide HA1, unhide HA2⟩)
      have HSX := hide (show Below g w X ∧ g ≤ T0 ∧ W5 X T0 (k : Int) b1 b2 gt gw A.r B.r A.V A.Pl B.V B.Pl tx ty from by
        rw [hA, hB]
        show _ ∧ _ ∧ W5 X T0 (k : Int) b1 b2 gt gw r1 r2 V1 P1 V2 P2 tx ty
        obtain ⟨a1, a2, a3, a4, a5, a6, a7, a8, a9⟩ := unhide Hq4
        have c1 := unhide HQ46
        have c2 : Below q4.heap.size q4 q7 := c1.trans ((unhide HX5).mono c1.size)
        have c3 : Below q4.heap.size q4 X := c2.trans ((unhide HX6).mono c2.size)
        have c4 := c3.size
        have d1 := a3.below c3 a3.lt
        have d2 := a4.below c3 a4.lt
        have d3 := (unhide HT5).below (unhide HX6) (unhide HT5).lt
        have d4 := unhide HW5
        rw [← hT0]
        exact ⟨a1.trans (c3.mono a2), by omega, ⟨Nat.le_refl _, ⟨d1.lt, d2.lt, d3.lt, d4.lt⟩, d1, d2, d3, d4, (a6.below (c3.mono a5)).mono (by omega), (a7.below (c3.mono a5)).mono (by omega), (a8.below (c3.mono a5)).mono (by omega), (a9.below (c3.mono a5)).mono (by omega)⟩⟩)
      clear HRH1 HT5 HX5 HW5 HX6 HQ46 Hq4
      go_wp2_with (first | refine wpList_load_mid rfl 34 (.tmp 16) rfl b1 0 rfl r1.cl _ (unhide HRA) Tryz.underlying34 rfl size_rep ?_ | refine wpList_load_mid rfl 34 (.tmp 17) rfl b2 0 rfl r2.cl _ (unhide HRB) Tryz.underlying34 rfl size_rep ?_ | refine wpList_rep5 rfl (.tmp 83) (.tmp 84) (.tmp 85) (.tmp 86) (.tmp 87) rfl r1 r2 rfl rfl rfl rfl rfl ?_)
      have HCX := hide (show ∀ W, Below T0 X W → Below g w W ∧ g ≤ W.heap.size ∧ T0 ≤ W.heap.size ∧ ETy W ∧ W5 W T0 (k : Int) b1 b2 gt gw A.r B.r A.V A.Pl B.V B.Pl (A.tx k) (B.tx k) from fun W hW => by
        obtain ⟨a1, a2, a3⟩ := unhide HSX
        have e1 := hW.size
        have e2 := a1.trans (hW.mono a2)
        have e3 := a3.below hW (by omega)
        rw [(unhide HTX).1, (unhide HTX).2]
        exact ⟨e2, by omega, by omega, unhide HEW W e2, e3⟩)
      have HNIL := hide (show Gt X T0 0 A B [] (fun _ => T0) (.slice none 0 0) from by
        have := Gt.nil X A B
        rw [hT0] at this
        exact this)
      have hXT : X.heap.size = T0 := hT0
      obtain ⟨ii, hi, hv0, hv1, hv2⟩ := info_parts infoR
      have HIR := hide (And.intro hi (And.intro hv0 (And.intro hv1 hv2)))
      clear hi hv0 hv1 hv2 HSX HRA HRB hX hgw hq7 hgt hT0 HA1 HA2 hA hB HO1 HO2 hXT
      rename_i K aK
      have hK : ∀ (wx : World) (p5 : Option Addr) (c5 : Nat) (R : List Rep) (N : Nat → Nat) (_ : R.length = 5) (_ : Gt wx T0 0 A B R N (.slice p5 5 c5)) (_ : Below T0 X wx) (t0 t1 t2 t3 t4 t5 t6 t7 t8 t9 t10 t11 t12 t15 t17 t20 t22 t25 t26 t27 t28 t29 t30 t31 t32 t33 t34 t35 t36 t37 t38 t39 t40 t41 t42 t43 t44 t45 t46 t47 t48 t49 t50 t51 t52 t53 t54 t55 t56 t57 t58 t59 t60 t61 t62 t63 t64 t65 t66 t67 t68 t69 t70 t71 t72 t73 t74 t75 t76 t77 t78 t79 t80 t81 t82 t83 t84 t85 t86 t87 t88 t89 t90 t91 t92 t93 t94 t95 t96 t97 t98 t99 t100 t101 t102 t103 t104 t105 t106 t107 t108 t109 t110 t111 t112 t113 t114 t115 t116 t117 t118 t119 t120 t121 t122 t123 t124 t125 t126 t127 t128 t129 t130 t131 t132 t133 t134 t135 t136 t137 t138 t139 t140 t141 t142 t143 t144 t145 t146 t147 t148 t149 t150 t151 t152 t153 t154 t155 t156 t157 t158 t159 t160 t161 t162 t163 t164 t165 t166 t167 t168 t169 t170 t171 t172 t173 t174 t175 t176 t177 t178 t179 t180 t181 t182 t183 t184 t185 t186 t187 t188 t189 t190 t191 t192 t193 t194 t195 t196 t197 : Value), K ⟨#[t0, t1, t2, t3, t4, t5, t6, t7, t8, t9, t10, t11, t12, .bool true, .int .i64 (k : Int), t15, .pointer (some ⟨b1, 0, none⟩), t17, .string tx, .int .i64 0, t20, .int .i64 0, t22, .slice (some ⟨gw, 0, none⟩) 5 5, .slice p5 5 c5, t25, t26, t27, t28, t29, t30, t31, t32, t33, t34, t35, t36, t37, t38, t39, t40, t41, t42, t43, t44, t45, t46, t47, t48, t49, t50, t51, t52, t53, t54, t55, t56, t57, t58, t59, t60, t61, t62, t63, t64, t65, t66, t67, t68, t69, t70, t71, t72, t73, t74, t75, t76, t77, t78, t79, t80, t81, t82, t83, t84, t85, t86, t87, t88, t89, t90, t91, t92, t93, t94, t95, t96, t97, t98, t99, t100, t101, t102, t103, t104, t105, t106, t107, t108, t109, t110, t111, t112, t113, t114, t115, t116, t117, t118, t119, t120, t121, t122, t123, t124, t125, t126, t127, t128, t129, t130, t131, t132, t133, t134, t135, t136, t137, t138, t139, t140, t141, t142, t143, t144, t145, t146, t147, t148, t149, t150, t151, t152, t153, t154, t155, t156, t157, t158, t159, t160, t161, t162, t163, t164, t165, t166, t167, t168, t169, t170, t171, t172, t173, t174, t175, t176, t177, t178, t179, t180, t181, t182, t183, t184, t185, t186, t187, t188, t189, t190, t191, t192, t193, t194, t195, t196, t197], []⟩ wx := fun wx p5 c5 R N q1 q2 q3 t0 t1 t2 t3 t4 t5 t6 t7 t8 t9 t10 t11 t12 t15 t17 t20 t22 t25 t26 t27 t28 t29 t30 t31 t32 t33 t34 t35 t36 t37 t38 t39 t40 t41 t42 t43 t44 t45 t46 t47 t48 t49 t50 t51 t52 t53 t54 t55 t56 t57 t58 t59 t60 t61 t62 t63 t64 t65 t66 t67 t68 t69 t70 t71 t72 t73 t74 t75 t76 t77 t78 t79 t80 t81 t82 t83 t84 t85 t86 t87 t88 t89 t90 t91 t92 t93 t94 t95 t96 t97 t98 t99 t100 t101 t102 t103 t104 t105 t106 t107 t108 t109 t110 t111 t112 t113 t114 t115 t116 t117 t118 t119 t120 t121 t122 t123 t124 t125 t126 t127 t128 t129 t130 t131 t132 t133 t134 t135 t136 t137 t138 t139 t140 t141 t142 t143 t144 t145 t146 t147 t148 t149 t150 t151 t152 t153 t154 t155 t156 t157 t158 t159 t160 t161 t162 t163 t164 t165 t166 t167 t168 t169 t170 t171 t172 t173 t174 t175 t176 t177 t178 t179 t180 t181 t182 t183 t184 t185 t186 t187 t188 t189 t190 t191 t192 t193 t194 t195 t196 t197 => aK _ _ (by
        have hT := (unhide HCX X (Below.refl _ _)).2.2.1
        exact ownC_walk w g k b1 b2 gt gw T0 A B tx X (fun W hW => unhide HCX W (hW.below hT (fun b hb q => by omega))) (unhide HGA) (unhide HTX).1 wx ⟨q3.mono (Nat.zero_le _), fun b _ hn => q3.block b (by omega)⟩ p5 c5 R N q1 q2 t0 t1 t2 t3 t4 t5 t6 t7 t8 t9 t10 t11 t12 t15 t17 t20 t22 t25 t26 t27 t28 t29 t30 t31 t32 t33 t34 t35 t36 t37 t38 t39 t40 t41 t42 t43 t44 t45 t46 t47 t48 t49 t50 t51 t52 t53 t54 t55 t56 t57 t58 t59 t60 t61 t62 t63 t64 t65 t66 t67 t68 t69 t70 t71 t72 t73 t74 t75 t76 t77 t78 t79 t80 t81 t82 t83 t84 t85 t86 t87 t88 t89 t90 t91 t92 t93 t94 t95 t96 t97 t98 t99 t100 t101 t102 t103 t104 t105 t106 t107 t108 t109 t110 t111 t112 t113 t114 t115 t116 t117 t118 t119 t120 t121 t122 t123 t124 t125 t126 t127 t128 t129 t130 t131 t132 t133 t134 t135 t136 t137 t138 t139 t140 t141 t142 t143 t144 t145 t146 t147 t148 t149 t150 t151 t152 t153 t154 t155 t156 t157 t158 t159 t160 t161 t162 t163 t164 t165 t166 t167 t168 t169 t170 t171 t172 t173 t174 t175 t176 t177 t178 t179 t180 t181 t182 t183 t184 t185 t186 t187 t188 t189 t190 t191 t192 t193 t194 t195 t196 t197)
      have HK := hide hK
      clear hK aK
      go_loopw [24, 25, 26, 27] (fun l i _ _ wr => ∃ (j : Nat) (p' : Option Addr) (c' : Nat) (R : List Rep) (N : Nat → Nat), j ≤ 5 ∧ i = .int .i64 (j : Int) ∧ l = .slice p' j c' ∧ R.length = j ∧ Gt wr T0 0 A B R N (.slice p' j c') ∧ Below T0 X wr) (fun _ i _ _ _ => 5 - (intOf i).toNat)
      case atStart => exact ⟨0, none, 0, [], _, by omega, rfl, rfl, rfl, unhide HNIL, Below.refl _ _⟩
      case round =>
        obtain ⟨j, p5, c5, R, N, hj, rfl, rfl, hR, hGt, hbX⟩ := hrel
        obtain ⟨wo, rfl⟩ : ∃ W, W = wr := ⟨_, rfl⟩
        have HGT := hide (And.intro hR (And.intro hGt hbX))
        clear hR hGt hbX
        by_cases hj5 : j < 5
        · have j0 : 0 ≤ (j : Int) := by omega
          have j1 : (j : Int) < 5 := by omega
          obtain ⟨C, hC⟩ : ∃ z, pk A B j = z := ⟨_, rfl⟩
          have ct : wo.cell? ⟨gt, j, none⟩ = some (.string (C.tx k)) := by
            rw [← hC]
            exact text_cell (unhide HCX wo (unhide HGT).2.2).2.2.2.2.bt j hj5
          have HD := hide (dec_gd k C (by rw [← hC]; exact (unhide HGA).1.pk (unhide HGA).2 j) wo (unhide HCX wo (unhide HGT).2.2).2.2.2.1)
          obtain ⟨sj, hsj⟩ : ∃ z, C.tx k = z := ⟨_, rfl⟩
          rw [hsj] at ct HD
          have HC := hide hC
          clear hC hsj
          go_wp2_with fail
          refine (unhide HD).mono ?_
          rintro e w1 ⟨q, rfl, hM, hb1⟩
          have HW1 := hide (show Below wo.heap.size wo w1 ∧ Below T0 X w1 from ⟨hb1, (unhide HGT).2.2.trans (hb1.mono (unhide HCX wo (unhide HGT).2.2).2.2.1)⟩)
          have HM := hide hM
          have HW1' := hide (show Below g w w1 ∧ g ≤ w1.heap.size ∧ True from ⟨(unhide HCX w1 (unhide HW1).2).1, (unhide HCX w1 (unhide HW1).2).2.1, trivial⟩)
          clear hM hb1 ct HD

          obtain ⟨N1, N2, N3, N4⟩ := boxv w1 34 #[.int .i64 0, .int .i64 0, .int .i64 0, .slice none 0 0, .int .i64 0, .slice none 0 0, .string ⟨#[]⟩, .string ⟨#[]⟩] (q.cs) g w (unhide HW1').1 (unhide HW1').2.1
          obtain ⟨b3, hb3⟩ : ∃ h, w1.heap.size = h := ⟨_, rfl⟩
          obtain ⟨z3, hz3⟩ : ∃ Z, w1.alloc (.cells #[.int .i64 0, .int .i64 0, .int .i64 0, .slice none 0 0, .int .i64 0, .slice none 0 0, .string ⟨#[]⟩, .string ⟨#[]⟩] 34) = Z := ⟨_, rfl⟩
          rw [hz3, hb3] at N1 N2 N4
          rw [hz3] at N3
          have N3' : Below w1.heap.size w1 (z3.setRow b3 (q.cs)) := by rw [← hb3]; exact N3
          have HZb3 := hide N1
          obtain ⟨q3x, hq3x⟩ : ∃ Z, z3.setRow b3 (q.cs) = Z := ⟨_, rfl⟩
          rw [hq3x] at N2 N3' N4
          have Hq3 := hide (And.intro N3' N2)
          have HO3 := hide (Rep.one q)
          have HR3 := hide (show q3x.rangeAt b3 0 q.cl from blk_range N2)
          have HNB := hide (Blk.new q3x 34 q.cs)
          have HQA := hide (show Below w1.heap.size w1 (q3x.alloc (.cells q.cs 34)) from N3'.trans (((Below.refl _ q3x).alloc (Nat.le_refl _) _).mono N3'.size))
          have HRW := hide (show (q3x.alloc (.cells q.cs 34)).ownsRow T0 34 8 (.slice p5 j c5) j (R.flatMap Rep.cl) ∧ T0 ≤ (q3x.alloc (.cells q.cs 34)).heap.size from by
            obtain ⟨d1, d2, d3⟩ := unhide HGT
            have d4 : Below wo.heap.size wo (q3x.alloc (.cells q.cs 34)) := (unhide HW1).1.trans ((unhide HQA).mono (unhide HW1).1.size)
            have d5 := d4.size
            have d6 := (unhide HCX wo d3).2.2.1
            have d7 := d2.row
            rw [d1] at d7
            exact ⟨own_onlyW d7 (Only.of_below (P := fun _ => False) d4) (fun _ _ c => c), by omega⟩)
          obtain ⟨gz, hgz⟩ : ∃ z, q3x.heap.size = z := ⟨_, rfl⟩
          obtain ⟨w4, hw4⟩ : ∃ Z, q3x.alloc (.cells q.cs 34) = Z := ⟨_, rfl⟩
          rw [hw4, hgz] at HNB
          rw [hw4] at HQA HRW
          have HNW := hide (show ∀ q' u, q.cl[q']? = some u → w4.cell? ((⟨gz, 0, none⟩ : Addr).add q') = some u from fun q' u hu => by
            rw [Addr.add_mid]
            exact blk_range (unhide HNB) q' u hu)
          have HON := hide (show ∀ u ∈ q.cl, u.oneCell' = true from fun u hu => by
            simp only [Rep.cl, List.mem_cons, List.not_mem_nil, or_false] at hu
            rcases hu with rfl | rfl | rfl | rfl | rfl | rfl | rfl | rfl <;> rfl)
          have HML := hide (show j + 1 ≤ maxLen ∧ (j + 1) * 112 ≤ 140737488355328 from ⟨by unfold maxLen; omega, by omega⟩)
          have HQL := hide (show q.cl.length = 1 * 8 from rfl)
          have HZ8 := hide (show (Value.agg z8).cells.size = 8 from rfl)
          have hbl : j * 112 + 112 ≤ 1000 := by omega
          clear N1 N2 N3 N3' N4 HNB
          go_wp2_with (first | refine wpList_store_row rfl 34 (.tmp 26) (.tmp 102) rfl b3 q.cs rfl rfl 34 #[.int .i64 0, .int .i64 0, .int .i64 0, .slice none 0 0, .int .i64 0, .slice none 0 0, .string ⟨#[]⟩, .string ⟨#[]⟩] (unhide HZb3) size_rep rfl (unhide HO3) ?_ | refine wpList_load_mid rfl 34 (.tmp 26) rfl b3 0 rfl q.cl _ (unhide HR3) Tryz.underlying34 rfl size_rep ?_ | (refine wpList_rep1 rfl (.tmp 107) rfl q rfl ?_; (try rw [hq3x]); (try rw [hgz]); (try rw [hw4])) | refine wpList_append_lies _ rfl (.tmp 106) (.tmp 108) 53 rfl T0 34 ii (.agg z8) 8 112 Tryz.underlying53 (unhide HIR).1 (unhide HIR).2.1 (unhide HIR).2.2.1 (unhide HIR).2.2.2 (unhide HZ8) (by decide) (.slice p5 j c5) j (R.flatMap Rep.cl) rfl (unhide HRW).1 ⟨gz, 0, none⟩ 1 1 q.cl rfl (unhide HQL) (unhide HNW) (unhide HON) (by decide) (unhide HML).1 (unhide HML).2 (unhide HRW).2 _ rfl ?_)
          intro g1 cz y ho hg1 hor hlt
          have HGY := hide (show Gt y T0 0 A B (R ++ [q]) (fun i => if i ≤ R.length then N i else w1.heap.size) (.slice (some ⟨g1, 0, none⟩) (j + 1) cz) ∧ (R ++ [q]).length = j + 1 ∧ Below T0 X y from by
            obtain ⟨d1, d2, d3⟩ := unhide HGT
            have hM' : RM (pk A B R.length).r.st wo.heap.size q (pk A B R.length).pr w1 := by rw [d1, unhide HC]; exact unhide HM
            have h1 := d2.step hM' (unhide HW1).1 (unhide HQA) (by rw [d1]; exact ho) hg1 hor
            rw [d1] at h1
            have e1 : Below T0 X w4 := (unhide HW1).2.trans ((unhide HQA).mono (unhide HCX w1 (unhide HW1).2).2.2.1)
            have e2 : Below T0 w4 y := (grown_onlyW hg1).below (unhide HRW).2 (fun b hb q => by have := ((unhide HRW).1.lt b q).1; omega)
            rw [d1]
            exact ⟨h1, by simp [d1], e1.trans e2⟩)
          clear ho hg1 hor hlt HRW HQA HNW HON HML HQL HZ8 HR3 HO3 HZb3 Hq3
          go_wp2_with fail
          go_roundw
          case rel => exact ⟨j + 1, _, _, _, _, by omega, by go_num, rfl, (unhide HGY).2.1, (unhide HGY).1, (unhide HGY).2.2⟩
          case measure => simp [intOf]; omega
        · go_wp2_with fail
          obtain rfl : j = 5 := by omega
          obtain ⟨d1, d2, d3⟩ := unhide HGT
          exact unhide HK wo p5 c5 R N d1 d2 d3 _ _ _ _ _ _ _ _ _ _ _ _ _ _ _ _ _ _ _ _ _ _ _ _ _ _ _ _ _ _ _ _ _ _ _ _ _ _ _ _ _ _ _ _ _ _ _ _ _ _ _ _ _ _ _ _ _ _ _ _ _ _ _ _ _ _ _ _ _ _ _ _ _ _ _ _ _ _ _ _ _ _ _ _ _ _ _ _ _ _ _ _ _ _ _ _ _ _ _ _ _ _ _ _ _ _ _ _ _ _ _ _ _ _ _ _ _ _ _ _ _ _ _ _ _ _ _ _ _ _ _ _ _ _ _ _ _ _ _ _ _ _ _ _ _ _ _ _ _ _ _ _ _ _ _ _ _ _ _ _ _ _ _ _ _ _ _ _ _ _ _ _ _ _ _ _ _ _ _ _ _ _ _ _ _ _ _ _ _ _
end Go.Proofs.YtclgkgaobjcifaaGreatDoor

namespace Go.Proofs.YtclgkgaobjcifaaGreatDoor
open Go.ChangeShapes Go.WideShapes Go.ChangeAt Go.RowKit
theorem own : ownKnob Tryz.prog.godebug = none := by kernel_rfl
theorem laidOut : laidOutB Tryz.prog = true := by kernel_rfl
theorem gEt : Tryz.prog.globalNamed "errors.errorType" = some 0 := by kernel_rfl
theorem gRt : (Tryz.prog.cutTypes.find? (·.1 == "internal/reflectlite.rtype")).map (·.2) = some 184 := by kernel_rfl
theorem gOne : ((List.range 226).filter fun t => Tryz.prog.rowNamed t [101, 114, 114, 111, 114]) = [151] := by kernel_rfl
theorem gSize : Tryz.prog.types.size = 226 := by kernel_rfl
def laidL : List (String × DataW Unit) := [("errors.errorType", Rows.laid_errors_errorType)]
theorem wf_I64 {z : Int} (h : (Lit.int .i64 z).wf = true) : I64 z := by
  simpa [I64, Lit.wf, IntKind.min, IntKind.max, IntKind.signed, IntKind.bits] using h
/-- What the row's list gives. -/
theorem ety_of {W : World} (h : laidMetH Tryz.prog laidL W) : ETy W := by
  have h' : laidMet Tryz.prog [] W ∧ handlesMet Tryz.prog laidL W := h
  obtain ⟨name, u, ty, e1, e2, e3, e4, e5⟩ := h'.2 _ (List.mem_singleton.2 rfl)
  have en : name = [101, 114, 114, 111, 114] := (Option.some.inj e1).symm
  subst en
  obtain rfl := Option.some.inj (gRt.symm.trans e2)
  have hm : ty ∈ (List.range 226).filter fun t => Tryz.prog.rowNamed t [101, 114, 114, 111, 114] := List.mem_filter.2 ⟨List.mem_range.2 (by rw [← gSize]; exact e3), e4⟩
  rw [gOne] at hm
  obtain rfl := List.mem_singleton.1 hm
  have hh : typeHandle Tryz.prog 151 = .pointer (some ⟨2, 151, none⟩) := by kernel_rfl
  rw [hh] at e5
  have := World.var?_cell gEt e5 0
  unfold ETy
  simpa using this
/-- A world for the witness: the settled one, the variable's cell laid. -/
noncomputable def laidWorld (os : Os) : World :=
  let w0 := World.holding Tryz.prog os ⟨#[], #[], []⟩
  { w0 with heap := w0.heap.modify 0 fun
      | .cells _ t frozen => .cells #[.iface 184 (.agg #[.pointer (some ⟨2, 151, none⟩)])] t frozen
      | o => o }
end Go.Proofs.YtclgkgaobjcifaaGreatDoor

namespace Go.Proofs.YtclgkgaobjcifaaGreatDoor
open Go.ChangeShapes Go.WideShapes Go.ChangeAt Go.RowKit
set_option maxRecDepth 100000 in
/-- An argument []int. -/
theorem open_ilw {H : Type} {enc : TypeId × Value → H} {w : World} {base : Nat} {spare : Nat → Bool} {held : Bool} {fuel : Nat} {a : Option Addr} {len cap : Nat} {x : DataW H × List MemPlace} (h : DataW.trod enc Tryz.prog w base spare held fuel 22 [.slice a len cap] = some x) :
    ∃ l : List Int, len = l.length ∧ Lst w w.heap.size a l ∧ (∀ i, I64 (l.getD i 0)) ∧ len ≤ 9223372036854775807 := by
  have hML : (maxLen : Nat) = 9223372036854775807 := rfl
  rcases open_ints Tryz.underlying22 Tryz.underlying3 (by kernel_rfl) h with ⟨hcs, _⟩ | ⟨ad, l, c, zs, hcs, _, hl, hm, hz, hd, hcell, hwz⟩
  · simp at hcs
    obtain ⟨rfl, rfl, rfl⟩ := hcs
    exact ⟨[], rfl, fun j hj => (by cases hj), fun i => by simp [I64], by omega⟩
  · simp at hcs
    obtain ⟨rfl, rfl, rfl⟩ := hcs
    have hzl : len ≤ zs.length := by rw [hz]; split <;> omega
    have hlen : (zs.take len).length = len := by simp; omega
    refine ⟨zs.take len, hlen.symm, fun j hj => ?_, fun i => ?_, by omega⟩
    · rw [hlen] at hj
      have hc := hcell j (by omega)
      have hc0 := hcell 0 (by omega)
      obtain ⟨b, off, spot⟩ := ad
      have hspot : spot = none := by simpa [Addr.add] using World.cell?_spot hc0
      subst hspot
      rw [Addr.add_mid] at hc
      refine ⟨b, off, rfl, World.block_lt_of_cell? w _ hc, hc.trans ?_⟩
      simp [hj]
    · by_cases hi : i < (zs.take len).length
      · rw [List.getD_eq_getElem?_getD, List.getElem?_eq_getElem hi]
        exact wf_I64 (hwz _ (List.mem_of_mem_take (List.getElem_mem hi)))
      · rw [List.getD_eq_getElem?_getD, List.getElem?_eq_none (by omega)]
        simp [I64]
end Go.Proofs.YtclgkgaobjcifaaGreatDoor

namespace Go.Proofs.YtclgkgaobjcifaaGreatDoor
open Go.ChangeShapes Go.WideShapes Go.ChangeAt Go.RowKit
set_option maxRecDepth 100000 in
/-- An argument []int, with the bound that its bytes make. -/
theorem open_ilz {H : Type} {enc : TypeId × Value → H} {w : World} {base : Nat} {spare : Nat → Bool} {held : Bool} {fuel : Nat} {a : Option Addr} {len cap : Nat} {x : DataW H × List MemPlace} (h : DataW.trod enc Tryz.prog w base spare held fuel 22 [.slice a len cap] = some x)
    (hs : ∀ n ∈ x.1.weights Tryz.prog 22, n ≤ reachBytes) :
    ∃ l : List Int, len = l.length ∧ Lst w w.heap.size a l ∧ (∀ i, I64 (l.getD i 0)) ∧ len ≤ 17592186044400 := by
  obtain ⟨l9, e1, e2, e3, _⟩ := open_ilw h
  refine ⟨l9, e1, e2, e3, ?_⟩
  rcases open_ints Tryz.underlying22 Tryz.underlying3 (by kernel_rfl) h with ⟨hcs, _⟩ | ⟨ad, l, cp, zs, hcs, _, hl, hm, hz, hd, hcell, hwz⟩
  · simp at hcs
    omega
  · simp at hcs
    obtain ⟨rfl, rfl, rfl⟩ := hcs
    have hzl : len ≤ zs.length := by rw [hz]; split <;> omega
    have hb : Tryz.prog.bytesOf 3 = 8 := by kernel_rfl
    have hw := hs ((zs.length) * 8) (by
      rw [hd]
      simp only [DataW.weights, Tryz.underlying22, List.mem_cons]
      left
      rw [hb]
      simp [lits]
      omega)
    unfold reachBytes at hw
    omega
end Go.Proofs.YtclgkgaobjcifaaGreatDoor
