import Derived.Test.YtpjoibolhkgkhaaGreatDoorMtq
import Derived.Test.YtpjoibolhkgkhaaGreatDoorMwf
namespace Go.Proofs.YtpjoibolhkgkhaaGreatDoor
open Go.RowKit
set_option maxRecDepth 100000
set_option maxHeartbeats 2000000 in
theorem run_neQ (r s : Req) (w : World) : (binOp .neq 29 (.agg r.cs) (.agg s.cs)).run Tryz.prog w = .ok (.bool (!eqQ r s)) w := by
  obtain ⟨kd, te, qu, vo, bl, no, di, wr, sa, da⟩ := r
  obtain ⟨kd', te', qu', vo', bl', no', di', wr', sa', da'⟩ := s
  rw [run_neq_struct, run_equalIn_struct _ _ _ _ _ (by kernel_rfl) stood_req]
  simp [Program.fieldsOf, Tryz.underlying29, go_sem, Req.cs]
  simp only [eqQ]
  (repeat' split) <;> simp [*]
theorem wpList_neQG {ops : Array Oper} {rest : List Oper} {op : Oper} {a : Act} {w : World} {Q : Exit → Act → World → Prop} (hw : Region.wanted op (yielded ops a.tmps) = true) (x y : Operand) (ho : op.op = .binOp .neq 29 x y 29) (r s : Req) (hx : a.eval x = .agg r.cs) (hy : a.eval y = .agg s.cs) (D : Bool) (hD : (!eqQ r s) = D) (h : wpList Tryz.prog ops Q rest (a.put op.dst (.bool D)) w) : wpList Tryz.prog ops Q (op :: rest) a w :=
  wpList_step fun K hK => by
    simp only [hw, if_true]
    have e := run_neQ r s w
    rw [hD] at e
    have e2 := run_eqGuard_agg (P := Tryz.prog) w .neq 29 x y r.cs s.cs guard_req
    unfold Oper.wp execOp
    simp only [ho, hx, hy, Sem.run_bind, e2, Result.andThen_ok, e, Sem.run_pure]
    exact hK _ _ h
/-- a row in a box of its own behind a world -/
theorem boxv (x : World) (T : TypeId) (zs cs : Array Value) (g : Nat) (w : World) (hb : Below g w x) (hg : g ≤ x.heap.size) : Blk (x.alloc (.cells zs T)) x.heap.size zs T ∧ Blk ((x.alloc (.cells zs T)).setRow x.heap.size cs) x.heap.size cs T ∧ Below x.heap.size x ((x.alloc (.cells zs T)).setRow x.heap.size cs) ∧ Below g w ((x.alloc (.cells zs T)).setRow x.heap.size cs) := by
  have h1 := Blk.new x T zs
  have h3 : Below x.heap.size x ((x.alloc (.cells zs T)).setRow x.heap.size cs) := below_setRow ((Below.refl _ x).alloc (Nat.le_refl _) _) (Nat.le_refl _) _
  exact ⟨h1, blk_setRow h1, h3, hb.trans (h3.mono hg)⟩
theorem pickP_small (c : Nat) (n : Nat) (h : c < n) : pickP (c : Int) n = c := by
  unfold pickP
  rw [if_neg (by omega), Int.emod_eq_of_lt (by omega) (by omega)]
  rfl
set_option maxHeartbeats 8000000 in
theorem through12 (kind a b status c0 d0 : Int) (hkind : I64 kind) (ha : I64 a) (hb : I64 b) (hst : I64 status) (hc : I64 c0) (hd : I64 d0) (p : Option Addr) (n c : Nat) (L : List Int) (hn : L.length = n) (w : World) (hL : Lst w w.heap.size p L) (hI : ∀ j, I64 (L.getD j 0)) (hn9 : n ≤ 9223372036854775807) (s : ByteArray) (hs : s.size ≤ 140737488351232) (t : ByteArray) (ht : t.size ≤ 140737488351232) (hE : ETy w) :
    Calls Tryz.prog 4 #[.int .i64 kind, .int .i64 a, .int .i64 b, .slice p n c, .string s, .int .i64 status, .int .i64 c0, .int .i64 d0, .string t] w fun e w' => e = .returned (.bool true) ∧ Below w.heap.size w w' := by
  have HK := hide (known12_any w)
  have HP := hide (fun W => pick12_any kind 13 (by decide) hkind 13 rfl W)
  have hkl := pickP_lt kind 13 (by decide)
  have hql := pickP_lt kind 12 (by decide)
  have HRQ := hide (fun W => request12_any kind a b hkind ha hb s hs W)
  have HRO := hide (fun W => request12_any ((pickP kind 12 : Nat) : Int) c0 d0 (by constructor <;> omega) hc hd t ht W)
  rw [pickP_small _ 12 hql] at HRO
  have HRP := hide (fun W (q : Lst W W.heap.size p L) => reply12_any (w := W) (pickP kind 13) status a b hst ha hb p n c L hn q hI hn9 s hs (by omega))
  generalize pickP kind 13 = k at *
  generalize pickP kind 12 = q at *
  obtain ⟨g, hg⟩ : ∃ g, w.heap.size = g := ⟨_, rfl⟩
  have HEW := hide (fun W (q : Below g w W) => hE.below q (by rw [← hg]; exact hE.lt))
  have HLW := hide (fun W (q : Below g w W) => (show Lst W W.heap.size p L from ((hg ▸ hL).below q).mono (by rw [← hg]; exact q.size)))
  have hk : k ≤ 12 := by omega
  have hk9 := hide hk
  have hq9 := hide hql
  rw [hg]
  clear hL hI hn hn9 hE hkl hql hk hkind ha hb hst hc hd hs ht
  go_enter Tryz.func4, Tryz.ntmps4
  go_wp2_with fail
  refine (unhide HK).mono ?_
  rintro e x1 ⟨rfl, hx1⟩
  have Hx1 := hide (show Below g w x1 ∧ g ≤ x1.heap.size from ⟨hg ▸ hx1, by rw [← hg]; exact hx1.size⟩)
  clear hx1 HK
  go_wp2_with fail
  refine (unhide HRQ _).mono ?_
  rintro e x2 ⟨⟨r, rfl, hr⟩, hx2⟩
  have Hx2 := hide (show Below g w x2 ∧ g ≤ x2.heap.size from ⟨(unhide Hx1).1.trans (hx2.mono (unhide Hx1).2), Nat.le_trans (unhide Hx1).2 hx2.size⟩)
  obtain ⟨N1, N2, N3, N4⟩ := boxv x2 29 #[.int .i64 0, .int .i64 0, .int .i64 0, .int .i64 0, .int .i64 0, .int .i64 0, .string ⟨#[]⟩, .string ⟨#[]⟩, .string ⟨#[]⟩, .string ⟨#[]⟩] (r.cs) g w (unhide Hx2).1 (unhide Hx2).2
  obtain ⟨h1, hh1⟩ : ∃ h, x2.heap.size = h := ⟨_, rfl⟩
  obtain ⟨z1, hz1⟩ : ∃ Z, x2.alloc (.cells #[.int .i64 0, .int .i64 0, .int .i64 0, .int .i64 0, .int .i64 0, .int .i64 0, .string ⟨#[]⟩, .string ⟨#[]⟩, .string ⟨#[]⟩, .string ⟨#[]⟩] 29) = Z := ⟨_, rfl⟩
  rw [hz1, hh1] at N1 N2 N4
  rw [hz1] at N3
  have N3' : Below x2.heap.size x2 (z1.setRow h1 (r.cs)) := by rw [← hh1]; exact N3
  have HZ1 := hide N1
  obtain ⟨q1, hq1⟩ : ∃ Z, z1.setRow h1 (r.cs) = Z := ⟨_, rfl⟩
  rw [hq1] at N2 N3' N4
  have Hq1 := hide (show Below g w q1 ∧ g ≤ q1.heap.size ∧ Blk q1 h1 (r.cs) 29 from ⟨(unhide Hx2).1.trans (N3'.mono (unhide Hx2).2), Nat.le_trans (unhide Hx2).2 N3'.size, N2⟩)
  have hq12 := unhide hq9
  have hr1 : 1 ≤ r.kd ∧ r.kd ≤ 12 := by rw [hr.1]; omega
  have HDE := hide (dec_enc r hr1 hr.2)
  have HFX := hide (encQ_form r hr1 hr.2)
  have c1 : q1.cell? ⟨h1, 0, none⟩ = some (.int .i64 r.kd) := by rw [N2.cell]; rfl
  have hwk : IntKind.i64.wrap (r.kd - 1) = (q : Int) := by rw [hr.1, wrapI_eq _ (by omega) (by omega)]; omega
  have HRK := hide hr.1
  have HO1 := hide (Req.one r)
  obtain ⟨kx, hkx⟩ : ∃ z, r.kd = z := ⟨_, rfl⟩
  have HKX := hide hkx
  rw [hkx] at c1 hwk
  clear N1 N2 N3 N3' N4 hr hr1 hx2 Hx1 Hx2 hq12 hkx HRQ
  go_wp2_with (first | refine wpList_store_row rfl 29 (.tmp 20) (.tmp 44) rfl h1 r.cs rfl rfl 29 #[.int .i64 0, .int .i64 0, .int .i64 0, .int .i64 0, .int .i64 0, .int .i64 0, .string ⟨#[]⟩, .string ⟨#[]⟩, .string ⟨#[]⟩, .string ⟨#[]⟩] (unhide HZ1) size_req rfl (unhide HO1) ?_)
  refine (unhide HRO _).mono ?_
  rintro e x3 ⟨⟨o, rfl, ho⟩, hx3⟩
  have Hx3 := hide (show Below g w x3 ∧ g ≤ x3.heap.size ∧ Blk x3 h1 (r.cs) 29 from ⟨(unhide Hq1).1.trans (hx3.mono (unhide Hq1).2.1), Nat.le_trans (unhide Hq1).2.1 hx3.size, (unhide Hq1).2.2.below hx3 (unhide Hq1).2.2.lt⟩)
  obtain ⟨N1, N2, N3, N4⟩ := boxv x3 29 #[.int .i64 0, .int .i64 0, .int .i64 0, .int .i64 0, .int .i64 0, .int .i64 0, .string ⟨#[]⟩, .string ⟨#[]⟩, .string ⟨#[]⟩, .string ⟨#[]⟩] (o.cs) g w (unhide Hx3).1 (unhide Hx3).2.1
  obtain ⟨h2, hh2⟩ : ∃ h, x3.heap.size = h := ⟨_, rfl⟩
  obtain ⟨z2, hz2⟩ : ∃ Z, x3.alloc (.cells #[.int .i64 0, .int .i64 0, .int .i64 0, .int .i64 0, .int .i64 0, .int .i64 0, .string ⟨#[]⟩, .string ⟨#[]⟩, .string ⟨#[]⟩, .string ⟨#[]⟩] 29) = Z := ⟨_, rfl⟩
  rw [hz2, hh2] at N1 N2 N4
  rw [hz2] at N3
  have N3' : Below x3.heap.size x3 (z2.setRow h2 (o.cs)) := by rw [← hh2]; exact N3
  have HZ2 := hide N1
  obtain ⟨q2, hq2⟩ : ∃ Z, z2.setRow h2 (o.cs) = Z := ⟨_, rfl⟩
  rw [hq2] at N2 N3' N4
  have Hq2 := hide (show Below g w q2 ∧ g ≤ q2.heap.size ∧ Blk q2 h1 (r.cs) 29 ∧ Blk q2 h2 (o.cs) 29 from ⟨(unhide Hx3).1.trans (N3'.mono (unhide Hx3).2.1), Nat.le_trans (unhide Hx3).2.1 N3'.size, (unhide Hx3).2.2.below N3' (unhide Hx3).2.2.lt, N2⟩)
  have hq12 := unhide hq9
  have hrk := unhide HRK
  have HFZ := hide (show errQ o = 0 ∧ (encQ o).size = 5 + szF (rqF r.kd) from by
    have := encQ_form o (by rw [ho.1]; omega) ho.2
    exact ⟨this.1, by rw [this.2.2.1, ho.1, hrk]⟩)
  have HO2 := hide (Req.one o)
  have HEX := hide (encodeRequest_any r)
  have HEZ := hide (encodeRequest_any o)
  rw [(unhide HFX).1] at HEX
  rw [(unhide HFZ).1] at HEZ
  have HDX := hide (fun W (hW : Below g w W) => decodeRequest_any (encQ r) (by have h1 := (unhide HFX).2.2.1; have h2 := szQ_le r.kd; omega) W (unhide HEW W hW))
  rw [(unhide HDE).1, (unhide HDE).2] at HDX
  have HSX := hide (show (encQ r).size = 5 + szF (rqF r.kd) ∧ (encQ o).size = 5 + szF (rqF r.kd) from ⟨(unhide HFX).2.2.1, (unhide HFZ).2⟩)
  clear HFX HFZ HDE
  generalize encQ r = X at *
  generalize encQ o = Z at *
  obtain ⟨nX, hnX⟩ : ∃ z, 5 + szF (rqF r.kd) = z := ⟨_, rfl⟩
  rw [hnX] at HSX
  have sX := (unhide HSX).1
  have sZ := (unhide HSX).2
  clear hnX HSX hq12 hrk ho hx3 N1 N2 N3 N3' N4 Hq1 Hx3 c1 hwk HRO
  have HR1 := hide (show q2.rangeAt h1 0 r.cl from blk_range ((unhide Hq2).2.2.1))
  have HR1v := hide (show (z2.setRow h2 o.cs).rangeAt h1 0 r.cl from by rw [hq2]; exact unhide HR1)
  go_wp2_with (first | refine wpList_store_row rfl 29 (.tmp 21) (.tmp 51) rfl h2 o.cs rfl rfl 29 #[.int .i64 0, .int .i64 0, .int .i64 0, .int .i64 0, .int .i64 0, .int .i64 0, .string ⟨#[]⟩, .string ⟨#[]⟩, .string ⟨#[]⟩, .string ⟨#[]⟩] (unhide HZ2) size_req rfl (unhide HO2) ?_ | refine wpList_load_mid rfl 29 (.tmp 20) rfl h1 0 rfl r.cl _ (unhide HR1) Tryz.underlying29 rfl size_req ?_ | refine wpList_load_mid rfl 29 (.tmp 20) rfl h1 0 rfl r.cl _ (unhide HR1v) Tryz.underlying29 rfl size_req ?_)
  refine (unhide HEX _).mono ?_
  rintro e x4 ⟨rfl, hx4⟩
  have Hx4 := hide (show Below g w x4 ∧ g ≤ x4.heap.size ∧ Blk x4 h1 (r.cs) 29 ∧ Blk x4 h2 (o.cs) 29 from ⟨(unhide Hq2).1.trans (hx4.mono (unhide Hq2).2.1), Nat.le_trans (unhide Hq2).2.1 hx4.size, (unhide Hq2).2.2.1.below hx4 (unhide Hq2).2.2.1.lt, (unhide Hq2).2.2.2.below hx4 (unhide Hq2).2.2.2.lt⟩)
  have HR2 := hide (show x4.rangeAt h2 0 o.cl from blk_range ((unhide Hx4).2.2.2))
  clear hx4 Hq2 HEX HR1 HR1v
  go_wp2_with (first | refine wpList_load_mid rfl 29 (.tmp 21) rfl h2 0 rfl o.cl _ (unhide HR2) Tryz.underlying29 rfl size_req ?_)
  refine (unhide HEZ _).mono ?_
  rintro e x5 ⟨rfl, hx5⟩
  have Hx5 := hide (show Below g w x5 ∧ g ≤ x5.heap.size ∧ Blk x5 h1 (r.cs) 29 ∧ Blk x5 h2 (o.cs) 29 from ⟨(unhide Hx4).1.trans (hx5.mono (unhide Hx4).2.1), Nat.le_trans (unhide Hx4).2.1 hx5.size, (unhide Hx4).2.2.1.below hx5 (unhide Hx4).2.2.1.lt, (unhide Hx4).2.2.2.below hx5 (unhide Hx4).2.2.2.lt⟩)
  have HD5 := hide (unhide HDX x5 (unhide Hx5).1)
  clear hx5 Hx4 HEZ HR2 HDX
  go_wp2_with fail
  refine (unhide HD5).mono ?_
  rintro e x6 ⟨rfl, hx6⟩
  have Hx6 := hide (show Below g w x6 ∧ g ≤ x6.heap.size ∧ Blk x6 h1 (r.cs) 29 ∧ Blk x6 h2 (o.cs) 29 from ⟨(unhide Hx5).1.trans (hx6.mono (unhide Hx5).2.1), Nat.le_trans (unhide Hx5).2.1 hx6.size, (unhide Hx5).2.2.1.below hx6 (unhide Hx5).2.2.1.lt, (unhide Hx5).2.2.2.below hx6 (unhide Hx5).2.2.2.lt⟩)
  obtain ⟨N1, N2, N3, N4⟩ := boxv x6 29 #[.int .i64 0, .int .i64 0, .int .i64 0, .int .i64 0, .int .i64 0, .int .i64 0, .string ⟨#[]⟩, .string ⟨#[]⟩, .string ⟨#[]⟩, .string ⟨#[]⟩] (r.cs) g w (unhide Hx6).1 (unhide Hx6).2.1
  obtain ⟨h3, hh3⟩ : ∃ h, x6.heap.size = h := ⟨_, rfl⟩
  obtain ⟨z3, hz3⟩ : ∃ Z, x6.alloc (.cells #[.int .i64 0, .int .i64 0, .int .i64 0, .int .i64 0, .int .i64 0, .int .i64 0, .string ⟨#[]⟩, .string ⟨#[]⟩, .string ⟨#[]⟩, .string ⟨#[]⟩] 29) = Z := ⟨_, rfl⟩
  rw [hz3, hh3] at N1 N2 N4
  rw [hz3] at N3
  have N3' : Below x6.heap.size x6 (z3.setRow h3 (r.cs)) := by rw [← hh3]; exact N3
  have HZ3 := hide N1
  obtain ⟨q3, hq3⟩ : ∃ Z, z3.setRow h3 (r.cs) = Z := ⟨_, rfl⟩
  rw [hq3] at N2 N3' N4
  have Hq3 := hide (show Below g w q3 ∧ g ≤ q3.heap.size ∧ Blk q3 h1 (r.cs) 29 ∧ Blk q3 h2 (o.cs) 29 ∧ Blk q3 h3 (r.cs) 29 from ⟨(unhide Hx6).1.trans (N3'.mono (unhide Hx6).2.1), Nat.le_trans (unhide Hx6).2.1 N3'.size, (unhide Hx6).2.2.1.below N3' (unhide Hx6).2.2.1.lt, (unhide Hx6).2.2.2.below N3' (unhide Hx6).2.2.2.lt, N2⟩)
  have HR1 := hide (show q3.rangeAt h1 0 r.cl from blk_range ((unhide Hq3).2.2.1))
  have HR3 := hide (show q3.rangeAt h3 0 r.cl from blk_range ((unhide Hq3).2.2.2.2))
  have HR1v := hide (show (z3.setRow h3 r.cs).rangeAt h1 0 r.cl from by rw [hq3]; exact unhide HR1)
  have HR3v := hide (show (z3.setRow h3 r.cs).rangeAt h3 0 r.cl from by rw [hq3]; exact unhide HR3)
  have HO3 := hide (Req.one r)
  have HNE := hide (show (!eqQ r r) = false from by rw [eqQ_self]; rfl)
  have HRP3 := hide (unhide HRP q3 (unhide HLW q3 (unhide Hq3).1))
  clear N1 N2 N3 N3' N4 hx6 Hx5 Hx6 HD5
  go_wp2_with (first | refine wpList_store_row rfl 29 (.tmp 26) (.tmp 65) rfl h3 r.cs rfl rfl 29 #[.int .i64 0, .int .i64 0, .int .i64 0, .int .i64 0, .int .i64 0, .int .i64 0, .string ⟨#[]⟩, .string ⟨#[]⟩, .string ⟨#[]⟩, .string ⟨#[]⟩] (unhide HZ3) size_req rfl (unhide HO3) ?_ | refine wpList_load_midG (by rfl) 29 (.tmp 26) rfl h3 0 rfl r.cl _ (unhide HR3) Tryz.underlying29 rfl size_req ?_ | refine wpList_load_midG (by rfl) 29 (.tmp 20) rfl h1 0 rfl r.cl _ (unhide HR1) Tryz.underlying29 rfl size_req ?_ | refine wpList_load_midG (by rfl) 29 (.tmp 26) rfl h3 0 rfl r.cl _ (unhide HR3v) Tryz.underlying29 rfl size_req ?_ | refine wpList_load_midG (by rfl) 29 (.tmp 20) rfl h1 0 rfl r.cl _ (unhide HR1v) Tryz.underlying29 rfl size_req ?_ | refine wpList_neQG (by rfl) (.tmp 82) (.tmp 83) rfl r r rfl rfl false (unhide HNE) ?_ | (go_at_call 9; refine (unhide HP _).mono ?_; rintro e x ⟨rfl, hx⟩; subst x))
  refine (unhide HRP3).mono ?_
  rintro e x7 ⟨⟨r2, V, Pl, rfl, hG⟩, hx7⟩
  have Hx7 := hide (show Below g w x7 ∧ g ≤ x7.heap.size from ⟨(unhide Hq3).1.trans (hx7.mono (unhide Hq3).2.1), Nat.le_trans (unhide Hq3).2.1 hx7.size⟩)
  obtain ⟨N1, N2, N3, N4⟩ := boxv x7 34 #[.int .i64 0, .int .i64 0, .int .i64 0, .slice none 0 0, .int .i64 0, .slice none 0 0, .string ⟨#[]⟩, .string ⟨#[]⟩] (r2.cs) g w (unhide Hx7).1 (unhide Hx7).2
  obtain ⟨h4, hh4⟩ : ∃ h, x7.heap.size = h := ⟨_, rfl⟩
  obtain ⟨z4, hz4⟩ : ∃ Z, x7.alloc (.cells #[.int .i64 0, .int .i64 0, .int .i64 0, .slice none 0 0, .int .i64 0, .slice none 0 0, .string ⟨#[]⟩, .string ⟨#[]⟩] 34) = Z := ⟨_, rfl⟩
  rw [hz4, hh4] at N1 N2 N4
  rw [hz4] at N3
  have N3' : Below x7.heap.size x7 (z4.setRow h4 (r2.cs)) := by rw [← hh4]; exact N3
  have HZ4 := hide N1
  obtain ⟨q4, hq4⟩ : ∃ Z, z4.setRow h4 (r2.cs) = Z := ⟨_, rfl⟩
  rw [hq4] at N2 N3' N4
  have Hq4 := hide (show Below g w q4 ∧ g ≤ q4.heap.size ∧ Blk q4 h4 (r2.cs) 34 from ⟨(unhide Hx7).1.trans (N3'.mono (unhide Hx7).2), Nat.le_trans (unhide Hx7).2 N3'.size, N2⟩)
  have hkk := unhide hk9
  obtain ⟨n4, hn4⟩ : ∃ z, x7.heap.size = z := ⟨_, rfl⟩
  have Hu4 := hide (show Below g w q4 ∧ g ≤ q4.heap.size ∧ Blk q4 h4 r2.cs 34 ∧ n4 ≤ q4.heap.size ∧ Lst q4 n4 r2.vp V ∧ Lst q4 n4 r2.pp Pl from ⟨(unhide Hq4).1, (unhide Hq4).2.1, (unhide Hq4).2.2, by rw [← hn4]; exact N3'.size, by rw [← hn4]; exact hG.lv.below N3', by rw [← hn4]; exact hG.lp.below N3'⟩)
  have hey := eyL_form k r2 V Pl hG.ok
  have hyn := frm_nums (eyL (k : Int) r2 V Pl) hey.2 ((k : Int) :: eyL (k : Int) r2 V Pl)
  have hys := frm_size (eyL (k : Int) r2 V Pl) ((k : Int) :: eyL (k : Int) r2 V Pl)
  have HGO := hide (rep_good k hkk r2 V Pl hG.st hG.vm hG.pm hG.ok _ hyn)
  have HEY := hide (encodeReply_ok k hkk r2 V Pl hG.vm hG.pm (by have := hG.m8; omega) hG.st hG.ok q4 ((unhide Hu4).2.2.2.2.1.mono (unhide Hu4).2.2.2.1) ((unhide Hu4).2.2.2.2.2.mono (unhide Hu4).2.2.2.1))
  have HVM := hide (And.intro hG.vm (And.intro hG.pm (And.intro hG.m8 hG.st)))
  have hsP := szP_le (k : Int)
  have HSZ := hide (show (strOfNums (eyL (k : Int) r2 V Pl) ++ strOfNums (le4 (chkN ((k : Int) :: eyL (k : Int) r2 V Pl)))).size = 5 + szF (rpF (k : Int)) from by rw [hys, hey.1]; omega)
  have HDY := hide (fun W (hW : Below g w W) => decodeReply_good k hkk _ (by have := unhide HSZ; omega) W (unhide HEW W hW) (unhide HGO).1 r2.st (unhide HGO).2.1 hG.st (prOf r2 V Pl) (unhide HGO).2.2.1 (unhide HGO).2.2.2)
  generalize strOfNums (eyL (k : Int) r2 V Pl) ++ strOfNums (le4 (chkN ((k : Int) :: eyL (k : Int) r2 V Pl))) = Y at *
  have hf4 : fullP (k : Int) (Rep.bare 4).st = false := by
    unfold fullP
    split <;> rfl
  have hb4 : lyB (k : Int) (Rep.bare 4) [] [] = true := by rw [lyB, if_neg (by rw [hf4]; decide)]; rfl
  have HEB := hide (fun W => encodeReply_ok k hkk (Rep.bare 4) [] [] rfl rfl ⟨Nat.zero_le _, Nat.zero_le _⟩ ⟨by decide, by decide⟩ hb4 W (Lst.nil _ _ _) (Lst.nil _ _ _))
  have hey4 := eyL_form k (Rep.bare 4) [] [] hb4
  have hys4 := frm_size (eyL (k : Int) (Rep.bare 4) [] []) ((k : Int) :: eyL (k : Int) (Rep.bare 4) [] [])
  have HSB := hide (show (strOfNums (eyL (k : Int) (Rep.bare 4) [] []) ++ strOfNums (le4 (chkN ((k : Int) :: eyL (k : Int) (Rep.bare 4) [] [])))).size = 5 + szF (rpF (k : Int)) from by rw [hys4, hey4.1]; omega)
  generalize strOfNums (eyL (k : Int) (Rep.bare 4) [] []) ++ strOfNums (le4 (chkN ((k : Int) :: eyL (k : Int) (Rep.bare 4) [] []))) = Y4 at *
  have HRS := hide (replySize_any (k : Int))
  have e1 : rsz (k : Int) = ((5 + szF (rpF (k : Int)) : Nat) : Int) := by rw [rsz, if_pos (by omega)]
  have e2 : rse (k : Int) = 0 := by rw [rse, if_pos (by omega)]
  rw [e1, e2] at HRS
  obtain ⟨nY, hnY⟩ : ∃ z, 5 + szF (rpF (k : Int)) = z := ⟨_, rfl⟩
  rw [hnY] at HRS HSZ HSB
  have sY := unhide HSZ
  have sY4 := unhide HSB
  have HBB := hide (built_rep 4)
  have HO4 := hide (Rep.one r2)
  clear e1 e2 hnY hey4 hys4 hb4 hf4 hey hyn hys hsP hG hx7 N1 N2 N3 N3' N4 Hx7 Hq4 hkk HRP3 Hq3 HR1 HR3 HR1v HR3v HNE HRP HGO hn4 HZ1 HZ2 HZ3 HO1 HO2 HO3
  have HR4 := hide (show q4.rangeAt h4 0 r2.cl from blk_range ((unhide Hu4).2.2.1))
  have HR4v := hide (show (z4.setRow h4 r2.cs).rangeAt h4 0 r2.cl from by rw [hq4]; exact unhide HR4)
  go_wp2_with (first | refine wpList_store_row rfl 34 (.tmp 29) (.tmp 101) rfl h4 r2.cs rfl rfl 34 #[.int .i64 0, .int .i64 0, .int .i64 0, .slice none 0 0, .int .i64 0, .slice none 0 0, .string ⟨#[]⟩, .string ⟨#[]⟩] (unhide HZ4) size_rep rfl (unhide HO4) ?_ | refine wpList_load_mid rfl 34 (.tmp 29) rfl h4 0 rfl r2.cl _ (unhide HR4) Tryz.underlying34 rfl size_rep ?_ | refine wpList_load_mid rfl 34 (.tmp 29) rfl h4 0 rfl r2.cl _ (unhide HR4v) Tryz.underlying34 rfl size_rep ?_)
  refine (unhide HEY).mono ?_
  rintro e x8 ⟨rfl, hx8⟩
  have Hx8 := hide (show Below g w x8 ∧ g ≤ x8.heap.size ∧ Blk x8 h4 r2.cs 34 ∧ n4 ≤ x8.heap.size ∧ Lst x8 n4 r2.vp V ∧ Lst x8 n4 r2.pp Pl from ⟨(unhide Hu4).1.trans (hx8.mono (unhide Hu4).2.1), Nat.le_trans (unhide Hu4).2.1 hx8.size, (unhide Hu4).2.2.1.below hx8 (unhide Hu4).2.2.1.lt, Nat.le_trans (unhide Hu4).2.2.2.1 hx8.size, (unhide Hu4).2.2.2.2.1.below (hx8.mono (unhide Hu4).2.2.2.1), (unhide Hu4).2.2.2.2.2.below (hx8.mono (unhide Hu4).2.2.2.1)⟩)
  clear hx8 HEY HR4 HR4v
  go_wp2_with (first | refine wpList_buildAs rfl 34 #[(0, .const (.int .i64 4))] rfl _ rfl (Rep.bare 4).cs (unhide HBB) ?_)
  refine (unhide HEB _).mono ?_
  rintro e x9 ⟨rfl, hx9⟩
  have Hx9 := hide (show Below g w x9 ∧ g ≤ x9.heap.size ∧ Blk x9 h4 r2.cs 34 ∧ n4 ≤ x9.heap.size ∧ Lst x9 n4 r2.vp V ∧ Lst x9 n4 r2.pp Pl from ⟨(unhide Hx8).1.trans (hx9.mono (unhide Hx8).2.1), Nat.le_trans (unhide Hx8).2.1 hx9.size, (unhide Hx8).2.2.1.below hx9 (unhide Hx8).2.2.1.lt, Nat.le_trans (unhide Hx8).2.2.2.1 hx9.size, (unhide Hx8).2.2.2.2.1.below (hx9.mono (unhide Hx8).2.2.2.1), (unhide Hx8).2.2.2.2.2.below (hx9.mono (unhide Hx8).2.2.2.1)⟩)
  have HD9 := hide (unhide HDY x9 (unhide Hx9).1)
  clear hx9 Hx8 HEB HDY
  go_wp2_with fail
  refine (unhide HD9).mono ?_
  rintro e y0 ⟨r3, rfl, hM, hy0⟩
  have Hy0 := hide (show Below g w y0 ∧ g ≤ y0.heap.size ∧ Blk y0 h4 r2.cs 34 ∧ n4 ≤ y0.heap.size ∧ Lst y0 n4 r2.vp V ∧ Lst y0 n4 r2.pp Pl from ⟨(unhide Hx9).1.trans (hy0.mono (unhide Hx9).2.1), Nat.le_trans (unhide Hx9).2.1 hy0.size, (unhide Hx9).2.2.1.below hy0 (unhide Hx9).2.2.1.lt, Nat.le_trans (unhide Hx9).2.2.2.1 hy0.size, (unhide Hx9).2.2.2.2.1.below (hy0.mono (unhide Hx9).2.2.2.1), (unhide Hx9).2.2.2.2.2.below (hy0.mono (unhide Hx9).2.2.2.1)⟩)
  obtain ⟨N1, N2, N3, N4⟩ := boxv y0 34 #[.int .i64 0, .int .i64 0, .int .i64 0, .slice none 0 0, .int .i64 0, .slice none 0 0, .string ⟨#[]⟩, .string ⟨#[]⟩] (r3.cs) g w (unhide Hy0).1 (unhide Hy0).2.1
  obtain ⟨h5, hh5⟩ : ∃ h, y0.heap.size = h := ⟨_, rfl⟩
  obtain ⟨z5, hz5⟩ : ∃ Z, y0.alloc (.cells #[.int .i64 0, .int .i64 0, .int .i64 0, .slice none 0 0, .int .i64 0, .slice none 0 0, .string ⟨#[]⟩, .string ⟨#[]⟩] 34) = Z := ⟨_, rfl⟩
  rw [hz5, hh5] at N1 N2 N4
  rw [hz5] at N3
  have N3' : Below y0.heap.size y0 (z5.setRow h5 (r3.cs)) := by rw [← hh5]; exact N3
  have HZ5 := hide N1
  obtain ⟨q5, hq5⟩ : ∃ Z, z5.setRow h5 (r3.cs) = Z := ⟨_, rfl⟩
  rw [hq5] at N2 N3' N4
  have Hq5 := hide (show Below g w q5 ∧ g ≤ q5.heap.size ∧ Blk q5 h4 r2.cs 34 ∧ n4 ≤ q5.heap.size ∧ Lst q5 n4 r2.vp V ∧ Lst q5 n4 r2.pp Pl ∧ Blk q5 h5 (r3.cs) 34 from ⟨(unhide Hy0).1.trans (N3'.mono (unhide Hy0).2.1), Nat.le_trans (unhide Hy0).2.1 N3'.size, (unhide Hy0).2.2.1.below N3' (unhide Hy0).2.2.1.lt, Nat.le_trans (unhide Hy0).2.2.2.1 N3'.size, (unhide Hy0).2.2.2.2.1.below (N3'.mono (unhide Hy0).2.2.2.1), (unhide Hy0).2.2.2.2.2.below (N3'.mono (unhide Hy0).2.2.2.1), N2⟩)
  have Hu5 := hide (show Below g w q5 ∧ g ≤ q5.heap.size ∧ Blk q5 h4 r2.cs 34 ∧ n4 ≤ q5.heap.size ∧ Lst q5 n4 r2.vp V ∧ Lst q5 n4 r2.pp Pl ∧ Blk q5 h5 (r3.cs) 34 ∧ RM r2.st x9.heap.size r3 (prOf r2 V Pl) q5 from ⟨(unhide Hq5).1, (unhide Hq5).2.1, (unhide Hq5).2.2.1, (unhide Hq5).2.2.2.1, (unhide Hq5).2.2.2.2.1, (unhide Hq5).2.2.2.2.2.1, (unhide Hq5).2.2.2.2.2.2, hM.below N3' (Nat.le_refl _)⟩)
  have HO5 := hide (Rep.one r3)
  clear N1 N2 N3 N3' N4 hM hy0 Hx9 Hy0 Hq5 HD9
  go_wp2_with (first | refine wpList_store_row rfl 34 (.tmp 34) (.tmp 118) rfl h5 r3.cs rfl rfl 34 #[.int .i64 0, .int .i64 0, .int .i64 0, .slice none 0 0, .int .i64 0, .slice none 0 0, .string ⟨#[]⟩, .string ⟨#[]⟩] (unhide HZ5) size_rep rfl (unhide HO5) ?_)
  refine (unhide HRS _).mono ?_
  rintro e y1 ⟨rfl, hy1⟩
  have Hy1 := hide (show Below g w y1 ∧ g ≤ y1.heap.size ∧ Blk y1 h4 r2.cs 34 ∧ n4 ≤ y1.heap.size ∧ Lst y1 n4 r2.vp V ∧ Lst y1 n4 r2.pp Pl ∧ Blk y1 h5 (r3.cs) 34 ∧ RM r2.st x9.heap.size r3 (prOf r2 V Pl) y1 from ⟨(unhide Hu5).1.trans (hy1.mono (unhide Hu5).2.1), Nat.le_trans (unhide Hu5).2.1 hy1.size, (unhide Hu5).2.2.1.below hy1 (unhide Hu5).2.2.1.lt, Nat.le_trans (unhide Hu5).2.2.2.1 hy1.size, (unhide Hu5).2.2.2.2.1.below (hy1.mono (unhide Hu5).2.2.2.1), (unhide Hu5).2.2.2.2.2.1.below (hy1.mono (unhide Hu5).2.2.2.1), (unhide Hu5).2.2.2.2.2.2.1.below hy1 (unhide Hu5).2.2.2.2.2.2.1.lt, (unhide Hu5).2.2.2.2.2.2.2.below hy1 (Nat.le_refl _)⟩)
  have HR4 := hide (show y1.rangeAt h4 0 r2.cl from blk_range ((unhide Hy1).2.2.1))
  have HR5 := hide (show y1.rangeAt h5 0 r3.cl from blk_range ((unhide Hy1).2.2.2.2.2.2.1))
  have hal : Ali r3 r2 y1 V Pl := by
    obtain ⟨m1, m2, m3, m4⟩ := unhide HVM
    have hS := (unhide Hy1).2.2.2.1
    have hMM := (unhide Hy1).2.2.2.2.2.2.2
    exact ⟨hMM.st, hMM.qu, hMM.ch, hMM.no, hMM.wr, hMM.da, ⟨hMM.v.1, hMM.v.lst⟩, ⟨m1.symm, (unhide Hy1).2.2.2.2.1.mono hS⟩, ⟨hMM.p.1, hMM.p.lst⟩, ⟨m2.symm, (unhide Hy1).2.2.2.2.2.1.mono hS⟩, by omega⟩
  have HAL := hide (alike12_eq r3 r2 y1 V Pl hal)
  clear hal hy1 Hu5 HRS
  go_wp2_with (first | refine wpList_load_mid rfl 34 (.tmp 34) rfl h5 0 rfl r3.cl _ (unhide HR5) Tryz.underlying34 rfl size_rep ?_ | refine wpList_load_mid rfl 34 (.tmp 29) rfl h4 0 rfl r2.cl _ (unhide HR4) Tryz.underlying34 rfl size_rep ?_)
  refine (unhide HAL).mono ?_
  rintro e y2 ⟨rfl, hy2⟩
  have HFI := hide (show Below g w y2 from (unhide Hy1).1.trans (hy2.mono (unhide Hy1).2.1))
  clear hy2 Hy1 HAL HR4 HR5
  go_wp2_with fail
  go_ret
  exact ⟨rfl, unhide HFI⟩
end Go.Proofs.YtpjoibolhkgkhaaGreatDoor
