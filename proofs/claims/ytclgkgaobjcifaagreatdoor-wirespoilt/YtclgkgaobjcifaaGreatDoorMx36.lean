import Derived.Test.YtclgkgaobjcifaaGreatDoorMx29
import Derived.Test.YtclgkgaobjcifaaGreatDoorMx19
import Derived.Test.YtclgkgaobjcifaaGreatDoorMx27
import Derived.Test.YtclgkgaobjcifaaGreatDoorMx35
import Derived.Test.YtclgkgaobjcifaaGreatDoorMx08
import Derived.Test.YtclgkgaobjcifaaGreatDoorMx17
import Derived.Deep.DeepCutAuto
import Derived.Test.YtclgkgaobjcifaaGreatDoorCards
import Derived.Test.YtclgkgaobjcifaaGreatDoorTie
import Derived.ProofKit
import Derived.OpenShut
import Derived.ShutString
import Derived.SizedLaws
import Derived.Deep.DeepHandedRow
import Derived.LaidLaws
import Derived.LaidHandle
import Derived.Lib.LaidTab
import Derived.Deep.Slices
import Derived.Deep.Strs
import Derived.Lib.SmallJoins
import Derived.Test.YtclgkgaobjcifaaGreatDoorMx13
import Derived.Test.YtclgkgaobjcifaaGreatDoorMx04
import Derived.Test.YtclgkgaobjcifaaGreatDoorMx06
namespace Go.Proofs.YtclgkgaobjcifaaGreatDoor
open Go.RowKit
set_option maxRecDepth 100000
set_option maxHeartbeats 2000000 in
theorem run_neQ (r s : Req) (w : World) : (binOp .neq 29 (.agg r.cs) (.agg s.cs)).run Tryz.prog w = .ok (.bool (!eqQ r s)) w := by
  obtain ⟨kd, te, qu, vo, bl, no, di, wr, sa, da⟩ := r
  obtain ⟨kd', te', qu', vo', bl', no', di', wr', sa', da'⟩ := s
  rw [run_neq_struct, run_equalIn_struct _ _ _ _ _ (by kernel_rfl) stood_req]
  simp [Program.fieldsOf, Tryz.underlying29, go_sem, Req.cs]
  simp only [eqQ]
  (repeat' split) <;> simp [*]
theorem wpList_neQG {ops : Array Oper} {rest : List Oper} {op : Oper} {a : Act} {w : World} {Q : Exit → Act → World → Prop} (hw : Region.wanted op (yielded ops a.tmps) = true) (x y : Operand) (ho : op.op = .binOp .neq 29 x y 29) (r s : Req) (hx : a.eval x = .agg r.cs) (hy : a.eval y = .agg s.cs) (D : Bool) (hD : (!eqQ r s) = D) (h : wpList Tryz.prog ops Q rest (a.put op.dst (.bool D)) w) : wpList Tryz.prog ops Q (op :: rest) a w :=
  wpList_step fun K hK => by
    simp only [hw, if_true]
    have e := run_neQ r s w
    rw [hD] at e
    have e2 := run_eqGuard_agg (P := Tryz.prog) w .neq 29 x y r.cs s.cs guard_req
    unfold Oper.wp execOp
    simp only [ho, hx, hy, Sem.run_bind, e2, Result.andThen_ok, e, Sem.run_pure]
    exact hK _ _ h
theorem errQ_zero (r : Req) (h : errQ r = 0) : ∃ n, (encQ r).size = n + 4 ∧ 1 ≤ n ∧ n ≤ 2000 := by
  unfold errQ at h
  by_cases hk : 1 ≤ r.kd ∧ r.kd ≤ 12
  · rw [if_pos hk] at h
    by_cases hb : lqB r = true
    · obtain ⟨_, _, f3, _⟩ := encQ_form r hk hb
      have := szQ_le r.kd
      exact ⟨1 + szF (rqF r.kd), by omega, by omega, by omega⟩
    · rw [if_neg hb] at h
      exact absurd h (by decide)
  · rw [if_neg hk] at h
    exact absurd h (by decide)
theorem encE_zero (kd : Int) (r : Rep) (V Pl : List Int) (h : encE kd r V Pl = 0) : ∃ n, (encS kd r V Pl).size = n + 4 ∧ 1 ≤ n ∧ n ≤ 2000 := by
  unfold encE at h
  by_cases hk : 0 ≤ kd ∧ kd ≤ 12
  · rw [if_pos hk] at h
    by_cases hb : encG kd r V Pl = true
    · obtain ⟨k, rfl⟩ : ∃ k : Nat, kd = (k : Int) := ⟨kd.toNat, by omega⟩
      have hb' := hb
      rw [encG, Bool.and_eq_true] at hb'
      have h1 := (eyL_form k r V Pl hb'.2).1
      have h2 := szP_le (k : Int)
      refine ⟨1 + szF (rpF (k : Int)), ?_, by omega, by omega⟩
      rw [encS, if_pos hk, if_pos hb, encF, frm_size, h1]
    · rw [if_neg hb] at h
      exact absurd h (by decide)
  · rw [if_neg hk] at h
    exact absurd h (by decide)
set_option maxHeartbeats 16000000 in
theorem spoilt12 (r : Req) (kd : Int) (p : Rep) (V Pl : List Int) (hvm : V.length = p.vm) (hpm : Pl.length = p.pm) (hm : p.vm ≤ 17592186044416 ∧ p.pm ≤ 17592186044416) (at0 by0 : Int) (hat : I64 at0) (w : World) (hLV : Lst w w.heap.size p.vp V) (hLP : Lst w w.heap.size p.pp Pl) (hE : ETy w) :
    Calls Tryz.prog 7 #[.agg r.cl.toArray, .int .i64 kd, .agg p.cs, .int .i64 at0, .int .i64 by0] w fun e w' => e = .returned (.bool true) ∧ Below w.heap.size w w' := by
  have HAT := hide hat
  obtain ⟨B1, B2, hbl, hs2⟩ := two_boxes w r.cl.toArray p.cs 29 34
  obtain ⟨g, hg⟩ : ∃ g, w.heap.size = g := ⟨_, rfl⟩
  rw [hg] at B1 B2 hbl hs2 hLV hLP ⊢
  have HEW := hide (fun W (q : Below g w W) => hE.below q (by rw [← hg]; exact hE.lt))
  have HLW := hide (show ∀ W, Below g w W → Lst W W.heap.size p.vp V ∧ Lst W W.heap.size p.pp Pl from fun W q => ⟨(hLV.below q).mono (by rw [← hg]; exact q.size), (hLP.below q).mono (by rw [← hg]; exact q.size)⟩)
  obtain ⟨x0, hx0⟩ : ∃ Z, (w.alloc (.cells r.cl.toArray 29)).alloc (.cells p.cs 34) = Z := ⟨_, rfl⟩
  rw [hx0] at B1 B2 hbl hs2
  have HX0 := hide (show Below g w x0 ∧ g + 2 ≤ x0.heap.size ∧ Blk x0 g r.cl.toArray 29 ∧ Blk x0 (g + 1) p.cs 34 from ⟨hbl, by omega, B1, B2⟩)
  have HK := hide (known12_any x0)
  have HEQ := hide (fun W => rencode_any r W)
  have HEP := hide (fun W (q : Below g w W) => encR_any kd p V Pl hvm hpm (by omega) W (unhide HLW W q).1 (unhide HLW W q).2)
  have HQZ := hide (errQ_zero r)
  have HPZ := hide (encE_zero kd p V Pl)
  generalize encS kd p V Pl = SP at *
  generalize encE kd p V Pl = EP at *
  generalize encQ r = SQ at *
  generalize errQ r = EQ at *
  clear B1 B2 hbl hs2 hLV hLP hE hvm hpm hm hat
  go_enter Tryz.func7, Tryz.ntmps7
  go_wp2_with fail
  (try rw [hx0])
  clear hx0
  refine (unhide HK).mono ?_
  rintro e x1 ⟨rfl, hx1⟩
  have H1 := hide (show Below g w x1 ∧ g + 2 ≤ x1.heap.size ∧ Blk x1 g r.cl.toArray 29 ∧ Blk x1 (g + 1) p.cs 34 from by
    obtain ⟨a1, a2, a3, a4⟩ := unhide HX0
    exact ⟨a1.trans (hx1.mono (by omega)), Nat.le_trans a2 hx1.size, a3.below hx1 a3.lt, a4.below hx1 a4.lt⟩)
  have HRQ := hide (show x1.rangeAt g 0 r.cl from blk_range (unhide H1).2.2.1)
  clear hx1 HX0 HK
  go_wp2_with (first | refine wpList_load_mid rfl 29 (.tmp 5) rfl g 0 rfl r.cl _ (unhide HRQ) Tryz.underlying29 rfl size_req ?_)
  refine (unhide HEQ _).mono ?_
  rintro e v1 ⟨rfl, hv1⟩
  have Hv1 := hide (show Below g w v1 ∧ g + 2 ≤ v1.heap.size ∧ Blk v1 (g + 1) p.cs 34 from by
    obtain ⟨a1, a2, a3, a4⟩ := unhide H1
    exact ⟨a1.trans (hv1.mono (by omega)), Nat.le_trans a2 hv1.size, a4.below hv1 a4.lt⟩)
  clear hv1 H1 HRQ HEQ
  go_upto_if 34 with fail
  go_cut [] (fun wx => Below g w wx ∧ g + 2 ≤ wx.heap.size ∧ Blk wx (g + 1) p.cs 34)
  case first =>
    by_cases hz : EQ = 0
    · obtain ⟨nn, hSz0, hn1, hn2⟩ := unhide HQZ hz
      obtain ⟨NN, hSz⟩ : ∃ q, SQ.size = q := ⟨_, rfl⟩
      have hNn : NN = nn + 4 := by omega
      have HNN := hide (And.intro hNn hn2)
      subst hz
      obtain ⟨cap, x4, hrun, hBs, hbel⟩ := Bsl.of_string v1 SQ (by omega)
      rw [hSz] at hrun
      obtain ⟨gb, hgb⟩ : ∃ q, v1.heap.size = q := ⟨_, rfl⟩
      have hA := hBs.2.2.2.2.1
      rw [hgb] at hA hrun hbel
      have HP := hide (fun W' => pick12_any at0 NN (by omega) (unhide HAT) (NN : Int) rfl W')
      have lp := pickP_lt at0 NN (by omega)
      generalize pickP at0 NN = k at *
      have hkl : k < (nums SQ).length := by rw [nums_len]; omega
      have c1 : x4.cell? ⟨gb, k, none⟩ = some (.int .u8 ((nums SQ).getD k 0)) := hA.get0 k hkl
      have f1 : x4.frozen? ⟨gb, k, none⟩ = false := hA.free0 k hkl
      obtain ⟨bv, hbv⟩ : ∃ q, IntKind.u8.wrap by0 = q := ⟨_, rfl⟩
      obtain ⟨x5, hx5⟩ : ∃ Z, x4.setCell ⟨gb, k, none⟩ (.int .u8 bv) = Z := ⟨_, rfl⟩
      have hA5 : Arr x5 gb 0 .u8 ((nums SQ).set k bv) := by rw [← hx5]; exact hA.set0 k hkl bv
      have hcv := run_convert_bytes_arg (P := Tryz.prog) x5 61 5 Tryz.underlying61 Tryz.underlying5 gb 0 NN cap ((nums SQ).set k bv) (by rw [List.length_set, nums_len]; omega) (fun j hj => hA5.get j (by rw [List.length_set, nums_len]; omega)) 9 Tryz.underlying9
      obtain ⟨tt, htt⟩ : ∃ Z, strOfNums ((nums SQ).set k bv) = Z := ⟨_, rfl⟩
      have htz : tt.size = nn + 4 := by rw [← htt, strOfNums_size, List.length_set, nums_len]; omega
      rw [htt] at hcv
      have i0 : 0 ≤ (k : Int) := by omega
      have i1 : (k : Int) < (NN : Int) := by omega
      have H5 := hide (show Below g w x5 ∧ g + 2 ≤ x5.heap.size ∧ Below v1.heap.size v1 x5 from by
        rw [← hx5]
        have hs4 := hbel.size
        have hg4 := (unhide Hv1).2.1
        refine ⟨((unhide Hv1).1.trans (hbel.mono (by omega))).setCell (by show g ≤ gb; omega) _, by simp; omega, ?_⟩
        rw [hgb]
        exact hbel.setCell (Nat.le_refl gb) _)
      have HFX := hide (fun W' => fixed12_any tt nn htz (by omega) (-1) W')
      obtain ⟨zc, hzc⟩ : ∃ q, (nums SQ).getD k 0 = q := ⟨_, rfl⟩
      rw [hzc] at c1
      clear hBs hbel hA hA5 htt htz hkl lp hzc
      clear hSz0 hNn hn1 hn2
      go_wp2_with (first | (go_at_call 9; refine (unhide HP _).mono ?_; rintro e y ⟨rfl, hy⟩; subst y))
      (try rw [hx5])
      refine (unhide HFX _).mono ?_
      rintro e x6 ⟨⟨t, rfl, ht⟩, hx6⟩
      have H6 := hide (show Below g w x6 ∧ g + 2 ≤ x6.heap.size ∧ Blk x6 (g + 1) p.cs 34 from by
        obtain ⟨a1, a2, a3⟩ := unhide H5
        obtain ⟨b1, b2, b3⟩ := unhide Hv1
        have b4 := b3.below a3 b3.lt
        exact ⟨a1.trans (hx6.mono (by omega)), Nat.le_trans a2 hx6.size, b4.below hx6 b4.lt⟩)
      have HDP := hide (decodeRequest_any t (by have := unhide HNN; omega) x6 (unhide HEW x6 (unhide H6).1))
      have HDR := hide (fun W => rdecode_any t (by have := unhide HNN; omega) W)
      generalize decR t = D at *
      generalize decE t = DE at *
      clear hx6 H5 HFX HP c1 f1 hrun hcv i0 i1 hgb hbv hx5 ht
      go_wp2_with fail
      refine (unhide HDP).mono ?_
      rintro e x7 ⟨rfl, hx7⟩
      have H7 := hide (show Below g w x7 ∧ g ≤ x7.heap.size ∧ Blk x7 (g + 1) p.cs 34 from by
        obtain ⟨a1, a2, a3⟩ := unhide H6
        exact ⟨a1.trans (hx7.mono (by omega)), by have := hx7.size; omega, a3.below hx7 a3.lt⟩)
      obtain ⟨N1, N2, N3, N4⟩ := boxv x7 29 #[.int .i64 0, .int .i64 0, .int .i64 0, .int .i64 0, .int .i64 0, .int .i64 0, .string ⟨#[]⟩, .string ⟨#[]⟩, .string ⟨#[]⟩, .string ⟨#[]⟩] D.cs g w (unhide H7).1 (unhide H7).2.1
      obtain ⟨h1, hh1⟩ : ∃ h, x7.heap.size = h := ⟨_, rfl⟩
      obtain ⟨z1, hz1⟩ : ∃ Z, x7.alloc (.cells #[.int .i64 0, .int .i64 0, .int .i64 0, .int .i64 0, .int .i64 0, .int .i64 0, .string ⟨#[]⟩, .string ⟨#[]⟩, .string ⟨#[]⟩, .string ⟨#[]⟩] 29) = Z := ⟨_, rfl⟩
      rw [hz1, hh1] at N1 N2 N4
      rw [hz1] at N3
      have N3' : Below x7.heap.size x7 (z1.setRow h1 D.cs) := by rw [← hh1]; exact N3
      have HZ1 := hide N1
      obtain ⟨q1, hq1⟩ : ∃ Z, z1.setRow h1 D.cs = Z := ⟨_, rfl⟩
      rw [hq1] at N2 N3' N4
      have Hq1 := hide (show Below g w q1 ∧ g ≤ q1.heap.size ∧ Blk q1 (g + 1) p.cs 34 ∧ Blk q1 h1 D.cs 29 from by
        obtain ⟨a1, a2, a3⟩ := unhide H7
        exact ⟨N4, Nat.le_trans a2 N3'.size, a3.below N3' a3.lt, N2⟩)
      have HO1 := hide (Req.one D)
      have HD2 := hide (unhide HDR q1)
      clear N1 N2 N3 N3' N4 hx7 H7 H6 HDP HDR
      go_wp2_with (first | refine wpList_store_row rfl 29 (.tmp 16) (.tmp 51) rfl h1 D.cs rfl rfl 29 #[.int .i64 0, .int .i64 0, .int .i64 0, .int .i64 0, .int .i64 0, .int .i64 0, .string ⟨#[]⟩, .string ⟨#[]⟩, .string ⟨#[]⟩, .string ⟨#[]⟩] (unhide HZ1) size_req rfl (unhide HO1) ?_)
      (try rw [hq1])
      refine (unhide HD2).mono ?_
      rintro e x8 ⟨rfl, hx8⟩
      have H8 := hide (show Below g w x8 ∧ g ≤ x8.heap.size ∧ Blk x8 (g + 1) p.cs 34 ∧ Blk x8 h1 D.cs 29 from by
        obtain ⟨a1, a2, a3, a4⟩ := unhide Hq1
        exact ⟨a1.trans (hx8.mono a2), Nat.le_trans a2 hx8.size, a3.below hx8 a3.lt, a4.below hx8 a4.lt⟩)
      obtain ⟨N1, N2, N3, N4⟩ := boxv x8 29 #[.int .i64 0, .int .i64 0, .int .i64 0, .int .i64 0, .int .i64 0, .int .i64 0, .string ⟨#[]⟩, .string ⟨#[]⟩, .string ⟨#[]⟩, .string ⟨#[]⟩] D.cs g w (unhide H8).1 (unhide H8).2.1
      obtain ⟨h2, hh2⟩ : ∃ h, x8.heap.size = h := ⟨_, rfl⟩
      obtain ⟨z2, hz2⟩ : ∃ Z, x8.alloc (.cells #[.int .i64 0, .int .i64 0, .int .i64 0, .int .i64 0, .int .i64 0, .int .i64 0, .string ⟨#[]⟩, .string ⟨#[]⟩, .string ⟨#[]⟩, .string ⟨#[]⟩] 29) = Z := ⟨_, rfl⟩
      rw [hz2, hh2] at N1 N2 N4
      rw [hz2] at N3
      have N3' : Below x8.heap.size x8 (z2.setRow h2 D.cs) := by rw [← hh2]; exact N3
      have HZ2 := hide N1
      obtain ⟨q2, hq2⟩ : ∃ Z, z2.setRow h2 D.cs = Z := ⟨_, rfl⟩
      rw [hq2] at N2 N3' N4
      have Hq2 := hide (show Below g w q2 ∧ g + 2 ≤ q2.heap.size ∧ Blk q2 (g + 1) p.cs 34 from by
        obtain ⟨a1, a2, a3, a4⟩ := unhide H8
        exact ⟨N4, by have h3 := (a3.below N3' a3.lt).lt; omega, a3.below N3' a3.lt⟩)
      have B1 := (unhide H8).2.2.2.below N3' (unhide H8).2.2.2.lt
      have HR1 := hide (show q2.rangeAt h1 0 D.cl from blk_range B1)
      have HR2 := hide (show q2.rangeAt h2 0 D.cl from blk_range N2)
      have HR1v := hide (show (z2.setRow h2 D.cs).rangeAt h1 0 D.cl from by rw [hq2]; exact unhide HR1)
      have HR2v := hide (show (z2.setRow h2 D.cs).rangeAt h2 0 D.cl from by rw [hq2]; exact unhide HR2)
      have HNE := hide (show (!eqQ D D) = false from by rw [eqQ_self]; rfl)
      clear N1 N2 N3 N3' N4 hx8 H8 Hq1 HD2 B1
      go_wp2_with (first | refine wpList_store_row rfl 29 (.tmp 18) (.tmp 56) rfl h2 D.cs rfl rfl 29 #[.int .i64 0, .int .i64 0, .int .i64 0, .int .i64 0, .int .i64 0, .int .i64 0, .string ⟨#[]⟩, .string ⟨#[]⟩, .string ⟨#[]⟩, .string ⟨#[]⟩] (unhide HZ2) size_req rfl (unhide HO1) ?_ | refine wpList_load_mid rfl 29 (.tmp 16) rfl h1 0 rfl D.cl _ (unhide HR1) Tryz.underlying29 rfl size_req ?_ | refine wpList_load_mid rfl 29 (.tmp 18) rfl h2 0 rfl D.cl _ (unhide HR2) Tryz.underlying29 rfl size_req ?_ | refine wpList_load_mid rfl 29 (.tmp 16) rfl h1 0 rfl D.cl _ (unhide HR1v) Tryz.underlying29 rfl size_req ?_ | refine wpList_load_mid rfl 29 (.tmp 18) rfl h2 0 rfl D.cl _ (unhide HR2v) Tryz.underlying29 rfl size_req ?_ | refine wpList_neQG (by rfl) (.tmp 58) (.tmp 59) rfl D D rfl rfl false (unhide HNE) ?_)
      (try rw [hq2])
      go_meet
      exact unhide Hq2
    · have hzf : (EQ == 0) = false := by simpa using hz
      clear hz
      go_wp2_with fail
      go_meet
      exact unhide Hv1
  case rest =>
  have Hw := hide hcut
  have HRP := hide (show wc.rangeAt (g + 1) 0 p.cl from blk_range (unhide Hw).2.2)
  have HE1 := hide (unhide HEP wc (unhide Hw).1)
  clear hcut Hv1 HEP HQZ
  go_wp2_with (first | refine wpList_load_mid rfl 34 (.tmp 7) rfl (g + 1) 0 rfl p.cl _ (unhide HRP) Tryz.underlying34 rfl size_rep ?_)
  refine (unhide HE1).mono ?_
  rintro e u1 ⟨rfl, hu1⟩
  have Hu1 := hide (show Below g w u1 ∧ g + 2 ≤ u1.heap.size ∧ True from ⟨(unhide Hw).1.trans (hu1.mono (by have := (unhide Hw).2.1; omega)), Nat.le_trans (unhide Hw).2.1 hu1.size, trivial⟩)
  clear hu1 Hw HRP HE1
  by_cases hz : EP = 0
  · obtain ⟨nn, hSz0, hn1, hn2⟩ := unhide HPZ hz
    obtain ⟨NN, hSz⟩ : ∃ q, SP.size = q := ⟨_, rfl⟩
    have hNn : NN = nn + 4 := by omega
    have HNN := hide (And.intro hNn hn2)
    subst hz
    obtain ⟨cap, x4, hrun, hBs, hbel⟩ := Bsl.of_string u1 SP (by omega)
    rw [hSz] at hrun
    obtain ⟨gb, hgb⟩ : ∃ q, u1.heap.size = q := ⟨_, rfl⟩
    have hA := hBs.2.2.2.2.1
    rw [hgb] at hA hrun hbel
    have HP := hide (fun W' => pick12_any at0 NN (by omega) (unhide HAT) (NN : Int) rfl W')
    have lp := pickP_lt at0 NN (by omega)
    generalize pickP at0 NN = k at *
    have hkl : k < (nums SP).length := by rw [nums_len]; omega
    have c1 : x4.cell? ⟨gb, k, none⟩ = some (.int .u8 ((nums SP).getD k 0)) := hA.get0 k hkl
    have f1 : x4.frozen? ⟨gb, k, none⟩ = false := hA.free0 k hkl
    obtain ⟨bv, hbv⟩ : ∃ q, IntKind.u8.wrap by0 = q := ⟨_, rfl⟩
    obtain ⟨x5, hx5⟩ : ∃ Z, x4.setCell ⟨gb, k, none⟩ (.int .u8 bv) = Z := ⟨_, rfl⟩
    have hA5 : Arr x5 gb 0 .u8 ((nums SP).set k bv) := by rw [← hx5]; exact hA.set0 k hkl bv
    have hcv := run_convert_bytes_arg (P := Tryz.prog) x5 61 5 Tryz.underlying61 Tryz.underlying5 gb 0 NN cap ((nums SP).set k bv) (by rw [List.length_set, nums_len]; omega) (fun j hj => hA5.get j (by rw [List.length_set, nums_len]; omega)) 9 Tryz.underlying9
    obtain ⟨tt, htt⟩ : ∃ Z, strOfNums ((nums SP).set k bv) = Z := ⟨_, rfl⟩
    have htz : tt.size = nn + 4 := by rw [← htt, strOfNums_size, List.length_set, nums_len]; omega
    rw [htt] at hcv
    have i0 : 0 ≤ (k : Int) := by omega
    have i1 : (k : Int) < (NN : Int) := by omega
    have H5 := hide (show Below g w x5 ∧ g + 2 ≤ x5.heap.size ∧ Below u1.heap.size u1 x5 from by
      rw [← hx5]
      have hs4 := hbel.size
      have hg4 := (unhide Hu1).2.1
      refine ⟨((unhide Hu1).1.trans (hbel.mono (by omega))).setCell (by show g ≤ gb; omega) _, by simp; omega, ?_⟩
      rw [hgb]
      exact hbel.setCell (Nat.le_refl gb) _)
    have HFX := hide (fun W' => fixed12_any tt nn htz (by omega) kd W')
    obtain ⟨zc, hzc⟩ : ∃ q, (nums SP).getD k 0 = q := ⟨_, rfl⟩
    rw [hzc] at c1
    clear hBs hbel hA hA5 htt htz hkl lp hzc
    clear hSz0 hNn hn1 hn2
    go_wp2_with (first | (go_at_call 9; refine (unhide HP _).mono ?_; rintro e y ⟨rfl, hy⟩; subst y))
    (try rw [hx5])
    refine (unhide HFX _).mono ?_
    rintro e x6 ⟨⟨t, rfl, ht⟩, hx6⟩
    have Hx6 := hide (show Below g w x6 ∧ g ≤ x6.heap.size from by
      obtain ⟨a1, a2, a3⟩ := unhide H5
      exact ⟨a1.trans (hx6.mono (by omega)), by have := hx6.size; omega⟩)
    have HDP := hide (decP_any kd t (by have := unhide HNN; omega) x6 (unhide HEW x6 (unhide Hx6).1))
    have HDR := hide (fun W => decR_any kd t (by have := unhide HNN; omega) W)
    have HS8 := hide (outO_sm kd t)
    clear hx6 H5 HFX HP c1 f1 hrun hcv i0 i1 hgb hbv hx5 ht
    go_wp2_with fail
    refine (unhide HDP).mono ?_
    rintro e v5 ⟨r1, rfl, hv5, oz1⟩
    obtain ⟨Na, hNa⟩ : ∃ q, x6.heap.size = q := ⟨_, rfl⟩
    rw [hNa] at oz1
    have Hv5 := hide (show Below g w v5 ∧ g ≤ v5.heap.size from ⟨(unhide Hx6).1.trans (hv5.mono (unhide Hx6).2), Nat.le_trans (unhide Hx6).2 hv5.size⟩)
    obtain ⟨N1, N2, N3, N4⟩ := boxv v5 34 #[.int .i64 0, .int .i64 0, .int .i64 0, .slice none 0 0, .int .i64 0, .slice none 0 0, .string ⟨#[]⟩, .string ⟨#[]⟩] (r1.cs) g w (unhide Hv5).1 (unhide Hv5).2
    obtain ⟨h1, hh1⟩ : ∃ h, v5.heap.size = h := ⟨_, rfl⟩
    obtain ⟨z1, hz1⟩ : ∃ Z, v5.alloc (.cells #[.int .i64 0, .int .i64 0, .int .i64 0, .slice none 0 0, .int .i64 0, .slice none 0 0, .string ⟨#[]⟩, .string ⟨#[]⟩] 34) = Z := ⟨_, rfl⟩
    rw [hz1, hh1] at N1 N2 N4
    rw [hz1] at N3
    have N3' : Below v5.heap.size v5 (z1.setRow h1 (r1.cs)) := by rw [← hh1]; exact N3
    have HZ1 := hide N1
    obtain ⟨q1, hq1⟩ : ∃ Z, z1.setRow h1 (r1.cs) = Z := ⟨_, rfl⟩
    rw [hq1] at N2 N3' N4
    have Hq1 := hide (show Below g w q1 ∧ g ≤ q1.heap.size ∧ Blk q1 h1 (r1.cs) 34 from ⟨(unhide Hv5).1.trans (N3'.mono (unhide Hv5).2), Nat.le_trans (unhide Hv5).2 N3'.size, N2⟩)
    have Hu1q := hide (show Below g w q1 ∧ g ≤ q1.heap.size ∧ Blk q1 h1 (r1.cs) 34 ∧ Oz (outO kd t).2 ((nums t).getD 0 0) Na r1 q1 from ⟨(unhide Hq1).1, (unhide Hq1).2.1, (unhide Hq1).2.2, (show Oz (outO kd t).2 ((nums t).getD 0 0) Na r1 v5 from oz1).below N3' (Nat.le_refl _)⟩)
    have HO1 := hide (Rep.one r1)
    clear N1 N2 N3 N3' N4 oz1 hv5 Hv5 Hq1 hNa HDP Hx6
    have HD2 := hide (unhide HDR q1)
    go_wp2_with (first | refine wpList_store_row rfl 34 (.tmp 22) (.tmp 92) rfl h1 (r1.cs) rfl rfl 34 #[.int .i64 0, .int .i64 0, .int .i64 0, .slice none 0 0, .int .i64 0, .slice none 0 0, .string ⟨#[]⟩, .string ⟨#[]⟩] (unhide HZ1) size_rep rfl (unhide HO1) ?_)
    (try rw [hq1])
    refine (unhide HD2).mono ?_
    rintro e v6 ⟨r2, rfl, hv6, oz2⟩
    obtain ⟨Nb, hNb⟩ : ∃ q, q1.heap.size = q := ⟨_, rfl⟩
    rw [hNb] at oz2
    have Hv6 := hide (show Below g w v6 ∧ g ≤ v6.heap.size ∧ Blk v6 h1 (r1.cs) 34 ∧ Oz (outO kd t).2 ((nums t).getD 0 0) Na r1 v6 from ⟨(unhide Hu1q).1.trans (hv6.mono (unhide Hu1q).2.1), Nat.le_trans (unhide Hu1q).2.1 hv6.size, (unhide Hu1q).2.2.1.below hv6 (unhide Hu1q).2.2.1.lt, (unhide Hu1q).2.2.2.below hv6 (Nat.le_refl _)⟩)
    obtain ⟨N1, N2, N3, N4⟩ := boxv v6 34 #[.int .i64 0, .int .i64 0, .int .i64 0, .slice none 0 0, .int .i64 0, .slice none 0 0, .string ⟨#[]⟩, .string ⟨#[]⟩] (r2.cs) g w (unhide Hv6).1 (unhide Hv6).2.1
    obtain ⟨h2, hh2⟩ : ∃ h, v6.heap.size = h := ⟨_, rfl⟩
    obtain ⟨z2, hz2⟩ : ∃ Z, v6.alloc (.cells #[.int .i64 0, .int .i64 0, .int .i64 0, .slice none 0 0, .int .i64 0, .slice none 0 0, .string ⟨#[]⟩, .string ⟨#[]⟩] 34) = Z := ⟨_, rfl⟩
    rw [hz2, hh2] at N1 N2 N4
    rw [hz2] at N3
    have N3' : Below v6.heap.size v6 (z2.setRow h2 (r2.cs)) := by rw [← hh2]; exact N3
    have HZ2 := hide N1
    obtain ⟨q2, hq2⟩ : ∃ Z, z2.setRow h2 (r2.cs) = Z := ⟨_, rfl⟩
    rw [hq2] at N2 N3' N4
    have Hq2 := hide (show Below g w q2 ∧ g ≤ q2.heap.size ∧ Blk q2 h1 (r1.cs) 34 ∧ Oz (outO kd t).2 ((nums t).getD 0 0) Na r1 q2 ∧ Blk q2 h2 (r2.cs) 34 from ⟨(unhide Hv6).1.trans (N3'.mono (unhide Hv6).2.1), Nat.le_trans (unhide Hv6).2.1 N3'.size, (unhide Hv6).2.2.1.below N3' (unhide Hv6).2.2.1.lt, (unhide Hv6).2.2.2.below N3' (Nat.le_refl _), N2⟩)
    have Hu2q := hide (show Below g w q2 ∧ g ≤ q2.heap.size ∧ Blk q2 h1 (r1.cs) 34 ∧ Oz (outO kd t).2 ((nums t).getD 0 0) Na r1 q2 ∧ Blk q2 h2 (r2.cs) 34 ∧ Oz (outO kd t).2 ((nums t).getD 0 0) Nb r2 q2 from ⟨(unhide Hq2).1, (unhide Hq2).2.1, (unhide Hq2).2.2.1, (unhide Hq2).2.2.2.1, (unhide Hq2).2.2.2.2, (show Oz (outO kd t).2 ((nums t).getD 0 0) Nb r2 v6 from oz2).below N3' (Nat.le_refl _)⟩)
    have HO2 := hide (Rep.one r2)
    have HR1 := hide (show q2.rangeAt h1 0 r1.cl from blk_range ((unhide Hu2q).2.2.1))
    have HR2 := hide (show q2.rangeAt h2 0 r2.cl from blk_range ((unhide Hu2q).2.2.2.2.1))
    have HR1v := hide (show (z2.setRow h2 (r2.cs)).rangeAt h1 0 r1.cl from by rw [hq2]; exact unhide HR1)
    have HR2v := hide (show (z2.setRow h2 (r2.cs)).rangeAt h2 0 r2.cl from by rw [hq2]; exact unhide HR2)
    obtain ⟨V1, P1, hal⟩ := Oz.ali (unhide HS8) ((unhide Hu2q).2.2.2.1) ((unhide Hu2q).2.2.2.2.2)
    have HA1 := hide (alike12_eq r1 r2 q2 V1 P1 hal)
    generalize (outO kd t).1 = E1 at *
    clear N1 N2 N3 N3' N4 oz2 hv6 Hq2 Hu1q Hv6 HD2 hNb HZ1 HO1 hal
    go_wp2_with (first | refine wpList_store_row rfl 34 (.tmp 24) (.tmp 98) rfl h2 (r2.cs) rfl rfl 34 #[.int .i64 0, .int .i64 0, .int .i64 0, .slice none 0 0, .int .i64 0, .slice none 0 0, .string ⟨#[]⟩, .string ⟨#[]⟩] (unhide HZ2) size_rep rfl (unhide HO2) ?_ | refine wpList_load_mid rfl 34 (.tmp 22) rfl h1 0 rfl (r1.cl) _ (unhide HR1) Tryz.underlying34 rfl size_rep ?_ | refine wpList_load_mid rfl 34 (.tmp 24) rfl h2 0 rfl (r2.cl) _ (unhide HR2) Tryz.underlying34 rfl size_rep ?_ | refine wpList_load_mid rfl 34 (.tmp 22) rfl h1 0 rfl (r1.cl) _ (unhide HR1v) Tryz.underlying34 rfl size_rep ?_ | refine wpList_load_mid rfl 34 (.tmp 24) rfl h2 0 rfl (r2.cl) _ (unhide HR2v) Tryz.underlying34 rfl size_rep ?_)
    (try rw [hq2])
    refine (unhide HA1).mono ?_
    rintro e v9 ⟨rfl, hv9⟩
    have HFI := hide (show Below g w v9 from (unhide Hu2q).1.trans (hv9.mono (unhide Hu2q).2.1))
    clear hv9 Hu2q HA1 HR1 HR2 HR1v HR2v
    go_wp2_with fail
    go_ret
    exact ⟨rfl, unhide HFI⟩
  · have hzf : (EP == 0) = false := by simpa using hz
    clear hz
    go_wp2_with fail
    go_ret
    exact ⟨rfl, (unhide Hu1).1⟩
end Go.Proofs.YtclgkgaobjcifaaGreatDoor

namespace Go.Proofs.YtclgkgaobjcifaaGreatDoor
open Go.ChangeShapes Go.WideShapes Go.ChangeAt Go.RowKit
theorem own : ownKnob Tryz.prog.godebug = none := by kernel_rfl
theorem laidOut : laidOutB Tryz.prog = true := by kernel_rfl
theorem gEt : Tryz.prog.globalNamed "errors.errorType" = some 0 := by kernel_rfl
theorem gRt : (Tryz.prog.cutTypes.find? (·.1 == "internal/reflectlite.rtype")).map (·.2) = some 184 := by kernel_rfl
theorem gOne : ((List.range 226).filter fun t => Tryz.prog.rowNamed t [101, 114, 114, 111, 114]) = [151] := by kernel_rfl
theorem gSize : Tryz.prog.types.size = 226 := by kernel_rfl
def laidL : List (String × DataW Unit) := [("errors.errorType", Rows.laid_errors_errorType)]
theorem wf_I64 {z : Int} (h : (Lit.int .i64 z).wf = true) : I64 z := by
  simpa [I64, Lit.wf, IntKind.min, IntKind.max, IntKind.signed, IntKind.bits] using h
/-- What the row's list gives. -/
theorem ety_of {W : World} (h : laidMetH Tryz.prog laidL W) : ETy W := by
  have h' : laidMet Tryz.prog [] W ∧ handlesMet Tryz.prog laidL W := h
  obtain ⟨name, u, ty, e1, e2, e3, e4, e5⟩ := h'.2 _ (List.mem_singleton.2 rfl)
  have en : name = [101, 114, 114, 111, 114] := (Option.some.inj e1).symm
  subst en
  obtain rfl := Option.some.inj (gRt.symm.trans e2)
  have hm : ty ∈ (List.range 226).filter fun t => Tryz.prog.rowNamed t [101, 114, 114, 111, 114] := List.mem_filter.2 ⟨List.mem_range.2 (by rw [← gSize]; exact e3), e4⟩
  rw [gOne] at hm
  obtain rfl := List.mem_singleton.1 hm
  have hh : typeHandle Tryz.prog 151 = .pointer (some ⟨2, 151, none⟩) := by kernel_rfl
  rw [hh] at e5
  have := World.var?_cell gEt e5 0
  unfold ETy
  simpa using this
/-- A world for the witness: the settled one, the variable's cell laid. -/
noncomputable def laidWorld (os : Os) : World :=
  let w0 := World.holding Tryz.prog os ⟨#[], #[], []⟩
  { w0 with heap := w0.heap.modify 0 fun
      | .cells _ t frozen => .cells #[.iface 184 (.agg #[.pointer (some ⟨2, 151, none⟩)])] t frozen
      | o => o }
end Go.Proofs.YtclgkgaobjcifaaGreatDoor

namespace Go.Proofs.YtclgkgaobjcifaaGreatDoor
open Go.ChangeShapes Go.WideShapes Go.ChangeAt Go.RowKit
set_option maxRecDepth 100000 in
/-- An argument []int. -/
theorem open_ilw {H : Type} {enc : TypeId × Value → H} {w : World} {base : Nat} {spare : Nat → Bool} {held : Bool} {fuel : Nat} {a : Option Addr} {len cap : Nat} {x : DataW H × List MemPlace} (h : DataW.trod enc Tryz.prog w base spare held fuel 22 [.slice a len cap] = some x) :
    ∃ l : List Int, len = l.length ∧ Lst w w.heap.size a l ∧ (∀ i, I64 (l.getD i 0)) ∧ len ≤ 9223372036854775807 := by
  have hML : (maxLen : Nat) = 9223372036854775807 := rfl
  rcases open_ints Tryz.underlying22 Tryz.underlying3 (by kernel_rfl) h with ⟨hcs, _⟩ | ⟨ad, l, c, zs, hcs, _, hl, hm, hz, hd, hcell, hwz⟩
  · simp at hcs
    obtain ⟨rfl, rfl, rfl⟩ := hcs
    exact ⟨[], rfl, fun j hj => (by cases hj), fun i => by simp [I64], by omega⟩
  · simp at hcs
    obtain ⟨rfl, rfl, rfl⟩ := hcs
    have hzl : len ≤ zs.length := by rw [hz]; split <;> omega
    have hlen : (zs.take len).length = len := by simp; omega
    refine ⟨zs.take len, hlen.symm, fun j hj => ?_, fun i => ?_, by omega⟩
    · rw [hlen] at hj
      have hc := hcell j (by omega)
      have hc0 := hcell 0 (by omega)
      obtain ⟨b, off, spot⟩ := ad
      have hspot : spot = none := by simpa [Addr.add] using World.cell?_spot hc0
      subst hspot
      rw [Addr.add_mid] at hc
      refine ⟨b, off, rfl, World.block_lt_of_cell? w _ hc, hc.trans ?_⟩
      simp [hj]
    · by_cases hi : i < (zs.take len).length
      · rw [List.getD_eq_getElem?_getD, List.getElem?_eq_getElem hi]
        exact wf_I64 (hwz _ (List.mem_of_mem_take (List.getElem_mem hi)))
      · rw [List.getD_eq_getElem?_getD, List.getElem?_eq_none (by omega)]
        simp [I64]
end Go.Proofs.YtclgkgaobjcifaaGreatDoor

namespace Go.Proofs.YtclgkgaobjcifaaGreatDoor
open Go.ChangeShapes Go.WideShapes Go.ChangeAt Go.RowKit
set_option maxRecDepth 100000
theorem list8 {α : Type} {l : List α} (h : l.length = 8) : ∃ c0 c1 c2 c3 c4 c5 c6 c7, l = [c0, c1, c2, c3, c4, c5, c6, c7] := by
  match l, h with
  | [c0, c1, c2, c3, c4, c5, c6, c7], _ => exact ⟨c0, c1, c2, c3, c4, c5, c6, c7, rfl⟩
theorem array8 {α : Type} {cs : Array α} (h : cs.size = 8) : ∃ c0 c1 c2 c3 c4 c5 c6 c7, cs = #[c0, c1, c2, c3, c4, c5, c6, c7] := by
  obtain ⟨l⟩ := cs
  obtain ⟨c0, c1, c2, c3, c4, c5, c6, c7, rfl⟩ := list8 (show l.length = 8 from h)
  exact ⟨c0, c1, c2, c3, c4, c5, c6, c7, rfl⟩
theorem cells3r : Tryz.prog.cellsOf 3 = 1 := by kernel_rfl
theorem cells9r : Tryz.prog.cellsOf 9 = 1 := by kernel_rfl
theorem cellsIr : Tryz.prog.cellsOf 22 = 1 := by kernel_rfl
theorem cellsSr : Tryz.prog.cellsOf 32 = 1 := by kernel_rfl
/-- A list of numbers within an argument. -/
theorem open_ilc {H : Type} {enc : TypeId × Value → H} {w : World} {base : Nat} {spare : Nat → Bool} {held : Bool} {fuel : Nat} {c : Value} {x : DataW H × List MemPlace} (h : DataW.trod enc Tryz.prog w base spare held fuel 22 [c] = some x)
    (hs : ∀ n ∈ x.1.weights Tryz.prog 22, n ≤ reachBytes) :
    ∃ (a : Option Addr) (len cap : Nat) (l : List Int), c = .slice a len cap ∧ l.length = len ∧ Lst w w.heap.size a l ∧ len ≤ 17592186044416 := by
  have h9 := h
  rcases open_ints Tryz.underlying22 Tryz.underlying3 (by kernel_rfl) h with ⟨hcs, _⟩ | ⟨ad, l, cp, zs, hcs, _, hl, hm, hz, hd, hcell, hwz⟩
  · have e : c = .slice none 0 0 := by simpa using hcs
    exact ⟨none, 0, 0, [], e, rfl, fun j hj => absurd hj (by simp), by omega⟩
  · have e : c = .slice (some ad) l cp := by simpa using hcs
    subst e
    obtain ⟨l9, e1, e2, _, _⟩ := open_ilw h9
    refine ⟨some ad, l, cp, l9, rfl, e1.symm, e2, ?_⟩
    have hzl : l ≤ zs.length := by rw [hz]; split <;> omega
    have hb : Tryz.prog.bytesOf 3 = 8 := by kernel_rfl
    have hw := hs ((zs.length) * 8) (by
      rw [hd]
      simp only [DataW.weights, Tryz.underlying22, List.mem_cons]
      left
      rw [hb]
      simp [lits]
      omega)
    unfold reachBytes at hw
    omega
theorem open_rep {H : Type} {enc : TypeId × Value → H} {W : World} {base b0 : Nat} {r : Reach} {spare : Nat → Bool} {held : Bool} {v : Value} {d : DataW H} {p : List MemPlace} (hv : Value.okWide Tryz.prog W r b0 34 v) (h : DataW.Trod enc Tryz.prog W base spare held 34 v d p) (hs : ∀ n ∈ d.weights Tryz.prog 34, n ≤ reachBytes) : ∃ (q : Rep) (V Pl : List Int), v = .agg q.cs ∧ V.length = q.vm ∧ Pl.length = q.pm ∧ (q.vm ≤ 17592186044416 ∧ q.pm ≤ 17592186044416) ∧ Lst W W.heap.size q.vp V ∧ Lst W W.heap.size q.pp Pl := by
  obtain ⟨cs, rfl, hsz⟩ := okWide_struct Tryz.underlying34 hv
  obtain ⟨c0, c1, c2, c3, c4, c5, c6, c7, rfl⟩ := array8 (hsz.trans (by kernel_rfl))
  obtain ⟨fuel, hf⟩ := h
  obtain ⟨xs, n, _, hx, hl, hlen, hfs⟩ := DataW.trod_struct Tryz.underlying34 hf
  obtain ⟨y0, y1, y2, y3, y4, y5, y6, y7, rfl⟩ := list8 (show xs.length = 8 from hlen)
  have g0 := hfs 0 _ rfl
  have g1 := hfs 1 _ rfl
  have g2 := hfs 2 _ rfl
  have g3 := hfs 3 _ rfl
  have g4 := hfs 4 _ rfl
  have g5 := hfs 5 _ rfl
  have g6 := hfs 6 _ rfl
  have g7 := hfs 7 _ rfl
  simp [Value.cells, cells3r, cells9r, cellsIr, cellsSr] at g0 g1 g2 g3 g4 g5 g6 g7
  obtain ⟨k0, e0, _, _⟩ := DataW.trod_int Tryz.underlying32 g0
  obtain ⟨k1, e1, _, _⟩ := DataW.trod_int Tryz.underlying3 g1
  obtain ⟨k2, e2, _, _⟩ := DataW.trod_int Tryz.underlying3 g2
  obtain ⟨k4, e4, _, _⟩ := DataW.trod_int Tryz.underlying3 g4
  obtain ⟨k6, e6, _, _⟩ := DataW.trod_string Tryz.underlying9 g6
  obtain ⟨k7, e7, _, _⟩ := DataW.trod_string Tryz.underlying9 g7
  have hd : d = .agg [y0.1, y1.1, y2.1, y3.1, y4.1, y5.1, y6.1, y7.1] := by simpa using (Prod.mk.inj hx).1
  have hw3 : ∀ n ∈ y3.1.weights Tryz.prog 22, n ≤ reachBytes := fun n hn => hs n (by
    rw [hd]
    simp only [DataW.weights, Tryz.underlying34, DataW.weightsEach, List.map_cons, List.mem_append]
    exact Or.inr (Or.inr (Or.inr (Or.inl hn))))
  have hw5 : ∀ n ∈ y5.1.weights Tryz.prog 22, n ≤ reachBytes := fun n hn => hs n (by
    rw [hd]
    simp only [DataW.weights, Tryz.underlying34, DataW.weightsEach, List.map_cons, List.mem_append]
    exact Or.inr (Or.inr (Or.inr (Or.inr (Or.inr (Or.inl hn))))))
  obtain ⟨a3, l3, m3, V, e3, v1, v2, v3⟩ := open_ilc g3 hw3
  obtain ⟨a5, l5, m5, Pl, e5, p1, p2, p3⟩ := open_ilc g5 hw5
  simp at e0 e1 e2 e4 e6 e7
  subst e0 e1 e2 e3 e4 e5 e6 e7
  exact ⟨⟨k0, k1, k2, a3, l3, m3, k4, a5, l5, m5, k6, k7⟩, V, Pl, rfl, v1, p1, ⟨v3, p3⟩, v2, p2⟩
end Go.Proofs.YtclgkgaobjcifaaGreatDoor

namespace Go.Proofs.YtclgkgaobjcifaaGreatDoor
open Go.ChangeShapes Go.WideShapes Go.ChangeAt Go.RowKit
set_option maxRecDepth 100000
theorem list10 {α : Type} {l : List α} (h : l.length = 10) : ∃ c0 c1 c2 c3 c4 c5 c6 c7 c8 c9, l = [c0, c1, c2, c3, c4, c5, c6, c7, c8, c9] := by
  match l, h with
  | [c0, c1, c2, c3, c4, c5, c6, c7, c8, c9], _ => exact ⟨c0, c1, c2, c3, c4, c5, c6, c7, c8, c9, rfl⟩
theorem array10 {α : Type} {cs : Array α} (h : cs.size = 10) : ∃ c0 c1 c2 c3 c4 c5 c6 c7 c8 c9, cs = #[c0, c1, c2, c3, c4, c5, c6, c7, c8, c9] := by
  obtain ⟨l⟩ := cs
  obtain ⟨c0, c1, c2, c3, c4, c5, c6, c7, c8, c9, rfl⟩ := list10 (show l.length = 10 from h)
  exact ⟨c0, c1, c2, c3, c4, c5, c6, c7, c8, c9, rfl⟩
theorem cells3 : Tryz.prog.cellsOf 3 = 1 := by kernel_rfl
theorem cells9 : Tryz.prog.cellsOf 9 = 1 := by kernel_rfl
theorem open_req {H : Type} {enc : TypeId × Value → H} {W : World} {base b0 : Nat} {r : Reach} {spare : Nat → Bool} {held : Bool} {v : Value} {d : DataW H} {p : List MemPlace} (hv : Value.okWide Tryz.prog W r b0 29 v) (h : DataW.Trod enc Tryz.prog W base spare held 29 v d p) : ∃ q : Req, v = .agg q.cl.toArray := by
  obtain ⟨cs, rfl, hsz⟩ := okWide_struct Tryz.underlying29 hv
  obtain ⟨c0, c1, c2, c3, c4, c5, c6, c7, c8, c9, rfl⟩ := array10 (hsz.trans (by kernel_rfl))
  obtain ⟨fuel, hf⟩ := h
  obtain ⟨xs, n, _, hx, hl, hlen, hfs⟩ := DataW.trod_struct Tryz.underlying29 hf
  obtain ⟨y0, y1, y2, y3, y4, y5, y6, y7, y8, y9, rfl⟩ := list10 (show xs.length = 10 from hlen)
  have g0 := hfs 0 _ rfl
  have g1 := hfs 1 _ rfl
  have g2 := hfs 2 _ rfl
  have g3 := hfs 3 _ rfl
  have g4 := hfs 4 _ rfl
  have g5 := hfs 5 _ rfl
  have g6 := hfs 6 _ rfl
  have g7 := hfs 7 _ rfl
  have g8 := hfs 8 _ rfl
  have g9 := hfs 9 _ rfl
  simp [Value.cells, cells3, cells9] at g0 g1 g2 g3 g4 g5 g6 g7 g8 g9
  obtain ⟨k0, e0, _, _⟩ := DataW.trod_int Tryz.underlying3 g0
  obtain ⟨k1, e1, _, _⟩ := DataW.trod_int Tryz.underlying3 g1
  obtain ⟨k2, e2, _, _⟩ := DataW.trod_int Tryz.underlying3 g2
  obtain ⟨k3, e3, _, _⟩ := DataW.trod_int Tryz.underlying3 g3
  obtain ⟨k4, e4, _, _⟩ := DataW.trod_int Tryz.underlying3 g4
  obtain ⟨k5, e5, _, _⟩ := DataW.trod_int Tryz.underlying3 g5
  obtain ⟨k6, e6, _, _⟩ := DataW.trod_string Tryz.underlying9 g6
  obtain ⟨k7, e7, _, _⟩ := DataW.trod_string Tryz.underlying9 g7
  obtain ⟨k8, e8, _, _⟩ := DataW.trod_string Tryz.underlying9 g8
  obtain ⟨k9, e9, _, _⟩ := DataW.trod_string Tryz.underlying9 g9
  simp at e0 e1 e2 e3 e4 e5 e6 e7 e8 e9
  subst e0 e1 e2 e3 e4 e5 e6 e7 e8 e9
  exact ⟨⟨k0, k1, k2, k3, k4, k5, k6, k7, k8, k9⟩, rfl⟩
end Go.Proofs.YtclgkgaobjcifaaGreatDoor
