import Derived.Test.YtnfcnpolflfpfaaGreatDoorMr48
import Derived.Test.YtnfcnpolflfpfaaGreatDoorMr49
import Derived.Test.YtnfcnpolflfpfaaGreatDoorMr50
import Derived.Deep.DeepCutAuto
import Derived.Deep.AppendLies
namespace Go.Proofs.YtnfcnpolflfpfaaGreatDoor
open Go.RowKit Go.Maps Go.Sort Go.Shelf
def GIn (x0 : World) (b jb pb xb : Nat) (L : List ByteArray) (A : List (Nat × Nat)) (hn : Nat) (Tw : Nat → En) (wb : Nat) (wr : World) : Prop :=
  ∃ T, ISt x0 wr b jb pb xb (fun x => x = wb) 30 20 4 true L A hn Tw T T ∧ WR wr wb 20 T
theorem image8 {w0 w : World} {b : Nat} {L : List ByteArray} {A : List (Nat × Nat)} {X : Nat → Prop} (h : DF w0 w b (rs L A) X) (hL : L.length = 128) : Calls Tryz.prog 13 #[.pointer (some ⟨b, 0, none⟩)] w fun e w' => ∃ g cap, e = .returned (.slice (some ⟨g, 0, none⟩) 128 cap) ∧ Strs w' (some ⟨g, 0, none⟩) L ∧ Below w.heap.size w w' := by
  obtain ⟨v, h1, _, _, _⟩ := h
  refine (image_any w _ b v _ h1 (by show 0 < L.length; omega) (by show L.length ≤ _; omega)).mono ?_
  rintro e w' ⟨v', rfl, hr, hb⟩
  obtain ⟨g, cap, e, hg1, hg2⟩ := hr.form (by show 0 < L.length; omega)
  obtain ⟨p', c', e2, hs⟩ := Strs.own hr
  rw [e] at e2
  simp at e2
  obtain ⟨rfl, rfl⟩ := e2
  exact ⟨g, cap, by rw [e]; show _ = Ending.returned (.slice _ 128 _); rw [show (rs L A).last.length = 128 from hL], hs, hb⟩
set_option maxRecDepth 100000 in
set_option maxHeartbeats 8000000 in
theorem crash8_walk (p1 : Option Addr) (m1 c1 : Nat) (p2 : Option Addr) (m2 c2 : Nat) (at0 : Int) (hat : I64 at0) (keep : Int) (w : World) (hg : ETy w) (hR1 : Raws w p1 m1) (hR2 : Raws w p2 m2) (hm1 : m1 ≤ 9223372036854775807) (hm2 : m2 ≤ 9223372036854775807) :
    Calls Tryz.prog 6 #[.slice p1 m1 c1, .slice p2 m2 c2, .int .i64 at0, .int .i64 keep] w fun e w' => e = .returned (.bool true) ∧ Below w.heap.size w w' := by
  have HAW := hide (awake8_any w hg)
  have HPF := hide (fun W => pick8_any at0 40 (by decide) hat 40 rfl W)
  have hpf := pickP_lt at0 40 (by decide)
  obtain ⟨f0, hf0⟩ : ∃ f, pickP at0 40 = f := ⟨_, rfl⟩
  rw [hf0] at HPF hpf
  have ef : (1 : Int) + (f0 : Int) = ((f0 + 1 : Nat) : Int) := by omega
  obtain ⟨f, hf⟩ : ∃ f, f0 + 1 = f := ⟨_, rfl⟩
  rw [hf] at ef
  have hf40 : f ≤ 40 := by omega
  have HH := hide (And.intro hg (And.intro hR1 hR2))
  clear hg hR1 hR2 hf0 hf hat
  go_enter Tryz.func6, Tryz.ntmps6
  go_wp2_with fail
  refine (unhide HAW).mono ?_
  rintro e x0 ⟨rfl, hb0⟩
  have hg0 : ETy x0 := (unhide HH).1.below hb0 (unhide HH).1.lt
  have HOP := hide (opened_any 20 (by decide) (by decide) x0 hg0)
  simp only [Int.cast_ofNat_Int] at HOP
  have H0 := hide (And.intro hb0 (And.intro ((unhide HH).2.1.below hb0) (And.intro ((unhide HH).2.2.below hb0) hg0)))
  clear hb0 hg0 HAW HH
  go_wp2_with fail
  refine (unhide HOP).mono ?_
  rintro e x2 ⟨b, pb, xb, rfl, jb, L, A, hn, hA, hS⟩
  have hmk := wmake 20 (by decide) x2
  simp only [Int.cast_ofNat_Int] at hmk
  obtain ⟨wb, hwb⟩ : ∃ q, x2.heap.size = q := ⟨_, rfl⟩
  obtain ⟨x3, hx3⟩ : ∃ q, x2.alloc (.cells (madeCells #[.int .i64 0, .string ⟨#[]⟩, .int .i64 0] (20 * 3)) 46) = q := ⟨_, rfl⟩
  rw [hx3, hwb] at hmk
  have hW2 : WR x3 wb 20 (fun _ => none) := by rw [← hx3, ← hwb]; exact wr_made x2 20
  have hb2 : Below x2.heap.size x2 x3 := by rw [← hx3]; exact (Below.refl _ _).alloc (Nat.le_refl _) _
  have hS2 := hS.more (Z := fun x => x = wb) hb2 (fun x q => by rw [q, hwb]; exact .inr ⟨Nat.le_refl _, hW2.lt⟩)
  have HBE := hide hS2.begin
  have H1 := hide (And.intro hA (And.intro (show x0.heap.size ≤ wb from by rw [← hwb]; exact hS.bel.size) hW2))
  clear hS hb2 hW2 hS2 hA HOP hx3 hwb
  go_wp2_with fail
  refine (unhide HBE).mono ?_
  rintro e x4 ⟨rfl, hS4, hO4⟩
  have X3 := hide (show GIn x0 b jb pb xb L A hn (fun _ => none) wb x4 from ⟨_, hS4, (unhide H1).2.2.only hO4 (fun q => q rfl)⟩)
  clear hS4 hO4 HBE hmk
  go_wp2
  go_loopw [16] (fun i wr => ∃ k : Nat, k ≤ m1 ∧ k ≤ 30 ∧ i = .int .i64 (k : Int) ∧ GIn x0 b jb pb xb L A hn (fun _ => none) wb wr) (fun i _ => m1 - (intOf i).toNat)
  case atStart => exact ⟨0, by omega, by omega, rfl, unhide X3⟩
  case round =>
    obtain ⟨k, hk, hk30, rfl, hGI⟩ := hrel
    obtain ⟨wo, rfl⟩ : ∃ wo, wo = wr := ⟨_, rfl⟩
    have HGI := hide hGI
    clear X3 hGI
    obtain ⟨cb, hcb⟩ : ∃ cb : Bool, decide (k < m1 ∧ k < 30) = cb := ⟨_, rfl⟩
    have HCB := hide hcb
    clear hcb
    go_upto_region 8 with fail
    go_cut [59] (fun c wx => c = .bool cb ∧ wx = wo)
    case first =>
      by_cases g1 : k < m1
      · have g1d : decide ((k : Int) < (m1 : Int)) = true := decide_eq_true (by omega)
        by_cases g2 : k < 30
        · have g2d : decide ((k : Int) < 30) = true := decide_eq_true (by omega)
          go_wp2_with fail
          go_meet
          exact ⟨congrArg Value.bool (by rw [← unhide HCB]; exact (decide_eq_true ⟨g1, g2⟩).symm), rfl⟩
        · have g2d : decide ((k : Int) < 30) = false := decide_eq_false (by omega)
          go_wp2_with fail
          go_meet
          exact ⟨congrArg Value.bool (by rw [← unhide HCB]; exact (decide_eq_false (fun r => g2 r.2)).symm), rfl⟩
      · have g1d : decide ((k : Int) < (m1 : Int)) = false := decide_eq_false (by omega)
        go_wp2_with fail
        go_meet
        exact ⟨congrArg Value.bool (by rw [← unhide HCB]; exact (decide_eq_false (fun r => g1 r.1)).symm), rfl⟩
    case rest =>
    obtain ⟨rfl, hwc⟩ := hcut
    subst wc
    cases cb with
    | true =>
      have hkn := of_decide_eq_true (unhide HCB)
      have k0 : (0 : Int) ≤ (k : Int) := by omega
      have k1 : (k : Int) < (m1 : Int) := by omega
      obtain ⟨T, hS, hW⟩ := unhide HGI
      obtain ⟨g, oo, kd, pl, dg, ct, rfl, hgl, q0, q1, q2, q3, i1, i2, i3⟩ := (unhide H0).2.1 k hkn.1
      rw [← hS.bel.cell (p := ⟨g, _, none⟩) hgl] at q0 q1 q2 q3
      have HCH := hide (change_any hS (by decide) (by decide) rfl (unhide H1).2.1 hW kd pl dg ct i1 i2 i3)
      clear hS hW hgl i1 i2 i3
      go_wp2_with fail
      refine (unhide HCH).mono ?_
      rintro e y1 ⟨rfl, T2, r1, r2, _⟩
      have HC := hide (show GIn x0 b jb pb xb L A hn (fun _ => none) wb y1 from ⟨T2, r1, r2⟩)
      clear r1 r2 HCH
      go_wp2
      go_roundw
      case rel => exact ⟨k + 1, by omega, by omega, by go_num, unhide HC⟩
      case measure => simp [intOf]; omega
    | false =>
      obtain ⟨T, hS, hW⟩ := unhide HGI
      have HCM := hide (hS.commit (by have := (unhide H1).1; omega))
      have HW0 := hide hW
      clear hS hW HCB HGI
      go_wp2_with fail
      refine (unhide HCM).mono ?_
      rintro e y1 ⟨rfl, ⟨L', A', hA', hS1⟩, hO1⟩
      have hW1 := (unhide HW0).only hO1 (fun q => q rfl)
      have hmk := wmake 20 (by decide) y1
      simp only [Int.cast_ofNat_Int] at hmk
      obtain ⟨nb, hnb⟩ : ∃ q, y1.heap.size = q := ⟨_, rfl⟩
      obtain ⟨y2, hy2⟩ : ∃ q, y1.alloc (.cells (madeCells #[.int .i64 0, .string ⟨#[]⟩, .int .i64 0] (20 * 3)) 46) = q := ⟨_, rfl⟩
      rw [hy2, hnb] at hmk
      have hb2 : Below y1.heap.size y1 y2 := by rw [← hy2]; exact (Below.refl _ _).alloc (Nat.le_refl _) _
      have B2 : Blk y2 nb (madeCells #[.int .i64 0, .string ⟨#[]⟩, .int .i64 0] (20 * 3)) 46 := by rw [← hy2, ← hnb]; exact Blk.new y1 _ _
      have hwn : wb ≠ nb := by have := hW1.lt; omega
      have hS2 := hS1.more (Z := fun x => x = wb ∨ x = nb) hb2 (fun x q => by
        rcases q with q | q
        · exact .inl q
        · rw [q, ← hnb]; exact .inr ⟨Nat.le_refl _, by rw [hnb]; exact B2.lt⟩)
      obtain ⟨y3, hcp, hN3, hO3⟩ := wcopy (hW1.below hb2) B2 (by rw [size_madeCells])
      simp only [Int.cast_ofNat_Int] at hcp
      have hnl : x0.heap.size ≤ nb := by rw [← hnb]; exact hS1.bel.size
      have hS3 := hS2.poke (Z := fun x => x = wb ∨ x = nb) hO3 (fun x r _ => .inr r) (fun x r => by rw [r]; exact hnl) (fun x q => .inl q)
      have HBE := hide hS3.begin
      have H2 := hide (And.intro hwn (And.intro hnl (And.intro hN3 (And.intro ((hW1.below hb2).only hO3 hwn) hA'))))
      clear hS1 hO1 hW1 hb2 B2 hwn hS2 hN3 hO3 hnl hS3 hy2 hnb HCM HW0 hA'
      go_wp2_with fail
      refine (unhide HBE).mono ?_
      rintro e y4 ⟨rfl, hS4, hO4⟩
      obtain ⟨h', hh'⟩ : ∃ q, (hn + 1) % 4294967296 = q := ⟨_, rfl⟩
      rw [hh'] at hS4
      have X3 := hide (show FIn x0 b jb pb xb L' A' h' T wb nb y4 from ⟨T, hS4, (unhide H2).2.2.1.only hO4 (fun q => q (.inr rfl)), (unhide H2).2.2.2.1.only hO4 (fun q => q (.inl rfl))⟩)
      clear hS4 hO4 HBE hh' hmk hcp
      go_wp2
      go_loopw [21] (fun i wr => ∃ j : Nat, j ≤ m2 ∧ j ≤ 30 ∧ i = .int .i64 (j : Int) ∧ FIn x0 b jb pb xb L' A' h' T wb nb wr) (fun i _ => m2 - (intOf i).toNat)
      case atStart => exact ⟨0, by omega, by omega, rfl, unhide X3⟩
      case round =>
        obtain ⟨j, hj, hj30, rfl, hGI⟩ := hrel
        obtain ⟨wq, rfl⟩ : ∃ wq, wq = wr := ⟨_, rfl⟩
        have HGI := hide hGI
        clear X3 hGI
        obtain ⟨cb, hcb⟩ : ∃ cb : Bool, decide (j < m2 ∧ j < 30) = cb := ⟨_, rfl⟩
        have HCB := hide hcb
        clear hcb
        go_upto_region 18 with fail
        go_cut [86] (fun c wx => c = .bool cb ∧ wx = wq)
        case first =>
          by_cases g1 : j < m2
          · have g1d : decide ((j : Int) < (m2 : Int)) = true := decide_eq_true (by omega)
            by_cases g2 : j < 30
            · have g2d : decide ((j : Int) < 30) = true := decide_eq_true (by omega)
              go_wp2_with fail
              go_meet
              exact ⟨congrArg Value.bool (by rw [← unhide HCB]; exact (decide_eq_true ⟨g1, g2⟩).symm), rfl⟩
            · have g2d : decide ((j : Int) < 30) = false := decide_eq_false (by omega)
              go_wp2_with fail
              go_meet
              exact ⟨congrArg Value.bool (by rw [← unhide HCB]; exact (decide_eq_false (fun r => g2 r.2)).symm), rfl⟩
          · have g1d : decide ((j : Int) < (m2 : Int)) = false := decide_eq_false (by omega)
            go_wp2_with fail
            go_meet
            exact ⟨congrArg Value.bool (by rw [← unhide HCB]; exact (decide_eq_false (fun r => g1 r.1)).symm), rfl⟩
        case rest =>
        obtain ⟨rfl, hwc⟩ := hcut
        subst wc
        cases cb with
        | true =>
          have hkn := of_decide_eq_true (unhide HCB)
          have j0 : (0 : Int) ≤ (j : Int) := by omega
          have j1 : (j : Int) < (m2 : Int) := by omega
          obtain ⟨T', hS, hN, hW⟩ := unhide HGI
          obtain ⟨g', o', kd, pl, dg, ct, rfl, hgl', q0, q1, q2, q3, i1, i2, i3⟩ := (unhide H0).2.2.1 j hkn.1
          rw [← hS.bel.cell (p := ⟨g', _, none⟩) hgl'] at q0 q1 q2 q3
          have HCH := hide (change_any hS (by decide) (by decide) (.inr rfl) (unhide H2).2.1 hN kd pl dg ct i1 i2 i3)
          have HWW := hide hW
          clear hS hN hW hgl' i1 i2 i3
          go_wp2_with fail
          refine (unhide HCH).mono ?_
          rintro e z4 ⟨rfl, T2, r1, r2, r3⟩
          have HC := hide (show FIn x0 b jb pb xb L' A' h' T wb nb z4 from ⟨T2, r1, r2, (unhide HWW).only r3 (by rintro (q | q); exact q (.inl rfl); exact (unhide H2).1 q)⟩)
          clear r1 r2 r3 HCH HWW
          go_wp2
          go_roundw
          case rel => exact ⟨j + 1, by omega, by omega, by go_num, unhide HC⟩
          case measure => simp [intOf]; omega
        | false =>
          obtain ⟨T', hS, hN, hW⟩ := unhide HGI
          have HAR := hide (hS.arm f hf40)
          have HOK := hide (And.intro hS.ok.1 (And.intro hS.ok.2.2 hS.lasts.2.2.2.2))
          have HWN := hide (And.intro hN hW)
          clear hS hN hW HCB HGI
          go_wp2_with (go_at_call 28; refine (unhide HPF _).mono ?_; rintro e w' ⟨rfl, hw'⟩; subst w')
          refine (unhide HAR).mono ?_
          rintro e x9 ⟨rfl, ⟨tx, hArm⟩, hO9⟩
          have HR9 := hide (And.intro ((unhide HWN).1.only hO9 (fun q => q (.inr rfl))) ((unhide HWN).2.only hO9 (fun q => q (.inl rfl))))
          have HMS := hide (show GoodL tx ∧ StOv h' L' L' ∧ IS L' 30 20 T ∧ IS (layP L' (natW tx)) 30 20 T' from by
            obtain ⟨S, _, _, _, _, _, _, _, a1, a2, a3, a4⟩ := hArm
            exact ⟨a1, a2, a3, a4⟩)
          have HC := hide (hArm.commit hf40 (by have := (unhide H1).1; have := (unhide H2).2.2.2.2; omega))
          clear HAR hArm hO9 HWN HPF
          go_wp2_with fail
          refine (unhide HC).mono ?_
          rintro e x10 ⟨er, s3, rfl, her, hdd, hDF, hO10, hp16, hcr⟩
          have HR10 := hide (And.intro ((unhide HR9).1.only hO10 (fun q => q (.inr rfl))) ((unhide HR9).2.only hO10 (fun q => q (.inl rfl))))
          have HDF := hide (And.intro hDF hcr)
          have HPE := hide (fun W (hb : Below x10.heap.size x10 W) => pendingD (hDF.below hb).di)
          obtain ⟨Pn, hPn⟩ : ∃ P, s3.pend.length = P := ⟨_, rfl⟩
          rw [hPn] at HPE hp16
          have HPN := hide hPn
          obtain ⟨bd, hbd⟩ : ∃ bd : Bool, (er == 0) = bd := ⟨_, rfl⟩
          have HBD := hide hbd
          clear HC her hdd hDF hcr hO10 hPn HR9
          obtain ⟨i0, hi, hz0, hz1', hz2'⟩ := info_parts infoI3
          have HIN := hide (And.intro hi (And.intro hz0 (And.intro hz1' hz2')))
          clear hi hz0 hz1' hz2'
          go_wp2
          clear hbd
          go_loopw [25, 26] (fun u i wr => ∃ k : Nat, k ≤ Pn ∧ i = .int .i64 (k : Int) ∧ BkJ x10 Pn k u wr) (fun _ i _ => Pn - (intOf i).toNat)
          case atStart => exact ⟨0, by omega, rfl, [], World.ownsRow_nil _ _ _ _, fun z hz => (by cases hz), Nat.le_refl _, Below.refl _ _⟩
          case round =>
            obtain ⟨k3, hk3, rfl, K, hR, hK, hKl, hB⟩ := hrel
            obtain ⟨wi, rfl⟩ : ∃ wi, wi = wr := ⟨_, rfl⟩
            obtain ⟨pv, cv, rfl, hcv⟩ := row_form hR
            have HR := hide hR
            have HK := hide hK
            have HB := hide hB
            obtain ⟨m, hm⟩ : ∃ m, K.length = m := ⟨_, rfl⟩
            rw [hm] at hKl ⊢
            have HM := hide hm
            have HPD := hide (unhide HPE wi hB)
            have hmd : (k3 : Int).tmod 62 = (k3 : Int) := by rw [Int.tmod_eq_emod_of_nonneg (by omega)]; omega
            clear hR hK hB hm hcv
            by_cases hkn3 : k3 < Pn
            · have hkn3' : (k3 : Int) < (Pn : Int) := by omega
              have k30 : (0 : Int) ≤ (k3 : Int) := by omega
              have HRA := hide (show (wi.alloc (.cells #[.int .i64 (k3 : Int)] 3)).ownsRow x10.heap.size 3 1 (.slice pv m cv) m (K.map (Value.int .i64)) from by
                have := owns_only (unhide HR) (Only.of_below (P := fun _ => False) ((Below.refl _ wi).alloc (Nat.le_refl _) (.cells #[.int .i64 (k3 : Int)] 3))) (fun _ _ q => q)
                rw [unhide HM] at this
                exact this)
              have HXB := hide (show Below x10.heap.size x10 (wi.alloc (.cells #[.int .i64 (k3 : Int)] 3)) from (unhide HB).alloc (unhide HB).size _)
              go_wp2_with (first | (go_at_call 29; refine (unhide HPD).mono ?_; rintro e w' ⟨rfl, hw'⟩; subst w') | (refine wpList_append_own _ rfl (.tmp 120) (.tmp 122) 70 rfl x10.heap.size 3 i0 (.int .i64 0) 1 8 Tryz.underlying70 (unhide HIN).1 (unhide HIN).2.1 (unhide HIN).2.2.1 (unhide HIN).2.2.2 rfl (by decide) _ m (K.map (Value.int .i64)) rfl (unhide HRA) ⟨wi.heap.size, 0, none⟩ 1 1 [.int .i64 (k3 : Int)] rfl rfl (fun r u hu => news_one wi 3 _ r u hu) (by simp [Value.oneCell']) (by unfold maxLen; omega) (by omega) (unhide HXB).size ?_))
              · intro v5 x5 ho5 hg5 _
                have HRR := hide (show BkJ x10 Pn (k3 + 1) v5 x5 from by
                  refine ⟨K ++ [(k3 : Int)], ?_, fun x hx => ?_, ?_, (unhide HXB).grown hg5 (unhide HXB).size (fun r hr => ((unhide HRA).lt r hr).1)⟩
                  · simpa [unhide HM] using ho5
                  · rcases List.mem_append.1 hx with r | r
                    · exact unhide HK x r
                    · simp at r; rw [r]; exact ⟨by omega, by omega⟩
                  · simp [unhide HM]; omega)
                clear ho5 hg5 HRA HXB
                go_wp2
                go_roundw
                case rel => exact ⟨k3 + 1, by omega, by go_num, unhide HRR⟩
                case measure => simp [intOf]; omega
              · go_roundw
                case rel => exact ⟨k3 + 1, by omega, by go_num, K, by rw [← unhide HM]; exact unhide HR, unhide HK, by have := unhide HM; omega, unhide HB⟩
                case measure => simp [intOf]; omega
            · have hkn3' : ¬ (k3 : Int) < (Pn : Int) := by omega
              have HIK := hide (ints_own (unhide HR))
              have hD := (unhide HDF).1.below (unhide HB)
              have HCR := hide (crashF hD (by rw [unhide HPN]; omega) pv K K.length cv rfl (unhide HIK) (by have := unhide HM; omega))
              obtain ⟨c1', I, hI, c2'⟩ := (unhide HDF).2.crash K (by rw [unhide HPN]; exact unhide HK)
              rw [c1', c2', unhide HM] at HCR
              have HIS := hide hI
              have HB10 := hide (And.intro ((unhide HR10).1.below (unhide HB)) ((unhide HR10).2.below (unhide HB)))
              clear hD c1' c2' hI HIK
              go_wp2_with (go_at_call 29; refine (unhide HPD).mono ?_; rintro e w' ⟨rfl, hw'⟩; subst w')
              refine (unhide HCR).mono ?_
              rintro e y1' ⟨rfl, hD1, hO1⟩
              have HW1 := hide (And.intro ((unhide HB10).1.only hO1 (fun q => q (.inr rfl))) ((unhide HB10).2.only hO1 (fun q => q (.inl rfl))))
              have HIM := hide (image8 hD1 (unhide HIS).len)
              have HY1 := hide (And.intro hD1.bel ((unhide H0).2.2.2.below hD1.bel (unhide H0).2.2.2.lt))
              clear hD1 hO1 HCR HB10 HPD
              go_wp2_with fail
              refine (unhide HIM).mono ?_
              rintro e u1 ⟨gi, cap, rfl, hIg, hb1⟩
              have HLD := hide (load128 u1 (some ⟨gi, 0, none⟩) cap I (unhide HIS).len (unhide HIS).size hIg)
              have HB1 := hide (And.intro hb1 ((unhide HY1).2.below hb1 (unhide HY1).2.lt))
              clear hIg hb1 HIM
              go_wp2_with fail
              refine (unhide HLD).mono ?_
              rintro e u2 ⟨cb', dv, rfl, hd, hb2⟩
              obtain ⟨a1, a2, a3, a4⟩ := unhide HMS
              have HPO := hide (popenI hd hb2 ((unhide HB1).2.below hb2 (unhide HB1).2.lt) (unhide HIS) a1 a2.len (unhide HOK).2.2 (Nat.mod_lt _ (by decide)) a3 a4 (by decide) (by decide) (unhide HOK).2.1 (unhide HOK).1)
              clear hd hb2 a1 a2 a3 a4 HLD
              go_wp2_with fail
              refine (unhide HPO).mono ?_
              rintro e u3 ⟨jq, pq, Sq, Lq, Aq, nq, Tq, rfl, hKq, hSe, hop, htx, hISq, hTOq, hor⟩
              have HIO := hide (PoolI.open hKq (unhide HB1).2 hSe hop htx hISq hTOq (by decide) (by decide) (by decide) (by decide))
              have HOR := hide hor
              clear hKq hSe hop htx hISq hTOq hor HPO
              go_wp2_with fail
              refine (unhide HIO).mono ?_
              rintro e u4 ⟨xq, rfl, hS4⟩
              obtain ⟨eb', bm', hM⟩ := hS4.im
              have hbw : Below y1'.heap.size y1' u4 := (unhide HB1).1.trans (hS4.bel.mono (unhide HB1).1.size)
              obtain ⟨ra, hra, hta⟩ := told_all hM hS4.ok.2.1 (unhide HOK).1 (by decide) ((unhide HW1).1.below hbw)
              have HTA := hide hta
              have HM4 := hide (And.intro hM (And.intro hS4.ok.2.1 ((unhide HW1).2.below hbw)))
              have HBW := hide hbw
              have HRA := hide hra
              clear hM hS4 hbw hta hra HIO
              go_wp2_with fail
              refine (unhide HTA).mono ?_
              rintro e u5 ⟨rfl, hb5⟩
              obtain ⟨rb, hrb, htb⟩ := told_all ((unhide HM4).1.below hb5) (unhide HM4).2.1 (unhide HOK).2.1 (by decide) ((unhide HM4).2.2.below hb5)
              have HTB := hide htb
              have HRB := hide hrb
              have HB5 := hide hb5
              clear hb5 htb hrb HTA
              go_wp2_with fail
              refine (unhide HTB).mono ?_
              rintro e u6 ⟨rfl, hb6⟩
              have HF := hide (show Below w.heap.size w u6 from by
                have q1 := (unhide H0).1
                have q2 := q1.trans ((unhide HY1).1.mono q1.size)
                have q3 := q2.trans ((unhide HBW).mono q2.size)
                have q4 := q3.trans ((unhide HB5).mono q3.size)
                exact q4.trans (hb6.mono q4.size))
              have hcase : ra = true ∨ (ra = false ∧ rb = true ∧ bd = false) := by
                rcases unhide HOR with q | ⟨q, q2⟩
                · exact .inl (unhide HRA q.symm)
                · cases ra with
                  | true => exact .inl rfl
                  | false => exact .inr ⟨rfl, unhide HRB q.symm, by rw [← unhide HBD]; simpa using q2⟩
              clear hb6 HTB
              rcases hcase with rfl | ⟨rfl, rfl, rfl⟩
              · go_wp2
                go_ret
                exact ⟨rfl, unhide HF⟩
              · go_wp2
                go_ret
                exact ⟨rfl, unhide HF⟩
end Go.Proofs.YtnfcnpolflfpfaaGreatDoor
