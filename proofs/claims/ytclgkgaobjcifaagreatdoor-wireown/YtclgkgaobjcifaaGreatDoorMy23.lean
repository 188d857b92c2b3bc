import Derived.Test.YtclgkgaobjcifaaGreatDoorMy22
import Derived.Test.YtclgkgaobjcifaaGreatDoorMy20
import Derived.Deep.DeepCutAuto
import Derived.Test.YtclgkgaobjcifaaGreatDoorMy13
import Derived.Test.YtclgkgaobjcifaaGreatDoorMy14
import Derived.Test.YtclgkgaobjcifaaGreatDoorMy19
namespace Go.Proofs.YtclgkgaobjcifaaGreatDoor
open Go.RowKit
set_option maxRecDepth 100000
set_option maxHeartbeats 8000000 in
theorem rgood_7 (r : Rep) (V Pl : List Int) (hvm : V.length = r.vm) (hpm : Pl.length = r.pm) (hm9 : r.vm ≤ 9000000000000000000 ∧ r.pm ≤ 9000000000000000000) (h1 : decide (r.st < 0) = false) (h2 : decide (r.st > 13) = false) (hfull : fullP 7 r.st = true) (w : World) (hLV : Lst w w.heap.size r.vp V) (hLP : Lst w w.heap.size r.pp Pl) : Calls Tryz.prog 46 #[.int .i64 7, .agg r.cl.toArray] w fun e w' => e = .returned (.bool (blankB r true false false false && (decide (0 ≤ r.qu ∧ r.qu ≤ 65535) && decide (0 ≤ r.ch ∧ r.ch ≤ 65535)))) ∧ Below w.heap.size w w' := by
  obtain ⟨g, hg⟩ : ∃ g, w.heap.size = g := ⟨_, rfl⟩
  obtain ⟨x, hx⟩ : ∃ Z, w.alloc (.cells r.cl.toArray 34) = Z := ⟨_, rfl⟩
  have B : Blk x g r.cl.toArray 34 := by rw [← hx, ← hg]; exact Blk.new w _ _
  have hb : Below g w x := by rw [← hx, ← hg]; exact (Below.refl _ w).alloc (Nat.le_refl _) _
  have HX := hide (And.intro B hb)
  have HW := hide (rwhole_any 7 r.st)
  rw [hfull] at HW
  have HR := hide (fun W (q : Below g w W) => rising_any W r.vp r.vc r.vm V hvm (((hg ▸ hLV).below q).mono (by rw [← hg]; exact q.size)) hm9.1)
  have HP := hide (fun W (q : Below g w W) => askedL_any W r.pp r.pc r.pm Pl hpm (((hg ▸ hLP).below q).mono (by rw [← hg]; exact q.size)) hm9.2)
  have HB := hide (fun W => blank_any r true false false false W)
  have HQ := hide (within_any r.qu 0 65535)
  have HC := hide (within_any r.ch 0 65535)
  have HN := hide (within_any r.no 0 4294967295)
  have HSZ := hide (show (Tryz.prog.info? 34).map (·.size) = some r.cl.length from size_rep)
  have HCE := hide (show ∀ W, Blk W g r.cl.toArray 34 → W.cell? ⟨g, 4, none⟩ = some (.int .i64 r.no) ∧ W.cell? ⟨g, 5, none⟩ = some (.slice r.pp r.pm r.pc) ∧ W.cell? ⟨g, 6, none⟩ = some (.string r.wr) ∧ W.cell? ⟨g, 7, none⟩ = some (.string r.da) from fun W q => ⟨q.cell 4, q.cell 5, q.cell 6, q.cell 7⟩)
  have d0 : x.cell? ⟨g, 0, none⟩ = some (.int .i64 r.st) := by rw [B.cell]; rfl
  have d1 : x.cell? ⟨g, 1, none⟩ = some (.int .i64 r.qu) := by rw [B.cell]; rfl
  have d2 : x.cell? ⟨g, 2, none⟩ = some (.int .i64 r.ch) := by rw [B.cell]; rfl
  have d3 : x.cell? ⟨g, 3, none⟩ = some (.slice r.vp r.vm r.vc) := by rw [B.cell]; rfl
  clear B hb hfull hLV hLP hvm hpm hm9
  rw [hg]
  generalize blankB r true false false false = RB at *
  generalize voB V = RV at *
  generalize plB Pl = RP at *
  generalize decide (0 ≤ r.qu ∧ r.qu ≤ 65535) = Q1 at *
  generalize decide (0 ≤ r.ch ∧ r.ch ≤ 65535) = Q2 at *
  generalize decide (0 ≤ r.no ∧ r.no ≤ 4294967295) = QN at *
  generalize r.cl = rl at *
  generalize r.st = st at *
  generalize r.qu = qu at *
  generalize r.ch = ch at *
  generalize r.no = no at *
  generalize r.vp = vp at *
  generalize r.vm = vm at *
  generalize r.vc = vc at *
  generalize r.pp = pp at *
  generalize r.pm = pm at *
  generalize r.pc = pc at *
  generalize r.wr = wr at *
  generalize r.da = da at *
  obtain ⟨QQ, hQQ⟩ : ∃ Z, (Q1 && Q2) = Z := ⟨_, rfl⟩
  rw [hQQ]
  have HQQ := hide hQQ
  clear hQQ
  go_enter Tryz.func46, Tryz.ntmps46
  go_upto_region 6 with (first | (go_at_call 74; refine (unhide HW _).mono ?_; rintro e y ⟨rfl, hy⟩; subst y))
  go_cut [6] (fun s6 wx => s6 = .bool QQ ∧ wx = x)
  case first =>
    cases Q1 with
    | false =>
      go_wp2_with (first | (go_at_call 76; refine (unhide HQ _).mono ?_; rintro e y ⟨rfl, hy⟩; subst y))
      go_meet
      exact ⟨congrArg Value.bool (unhide HQQ), rfl⟩
    | true =>
      go_wp2_with fail
      refine (unhide HQ _).mono ?_
      rintro e y ⟨rfl, hy⟩
      subst y
      go_wp2_with fail
      refine (unhide HC _).mono ?_
      rintro e y ⟨rfl, hy⟩
      subst y
      go_wp2_with fail
      go_meet
      exact ⟨congrArg Value.bool (unhide HQQ), rfl⟩
  case rest =>
  obtain ⟨rfl, rfl⟩ := hcut
  clear HQQ
  clear d0 d1 d2
  go_wp2_with fail
  refine (unhide HR _ (unhide HX).2).mono ?_
  rintro e y1 ⟨rfl, hy1⟩
  have H1 := hide (show Blk y1 g rl.toArray 34 ∧ Below g w y1 from ⟨(unhide HX).1.below hy1 (unhide HX).1.lt, (unhide HX).2.trans (hy1.mono (Nat.le_of_lt (unhide HX).1.lt))⟩)
  have d5 := (unhide HCE y1 (unhide H1).1).2.1
  clear hy1 d3 HX
  go_wp2_with fail
  refine (unhide HP _ (unhide H1).2).mono ?_
  rintro e y2 ⟨rfl, hy2⟩
  have H2 := hide (show Blk y2 g rl.toArray 34 ∧ Below g w y2 from ⟨(unhide H1).1.below hy2 (unhide H1).1.lt, (unhide H1).2.trans (hy2.mono (Nat.le_of_lt (unhide H1).1.lt))⟩)
  have HRG := hide (show y2.rangeAt g 0 rl from blk_range (unhide H2).1)
  clear hy2 d5 H1
  go_wp2_with (refine wpList_load_mid rfl 34 (.tmp 3) rfl g 0 rfl rl _ (unhide HRG) Tryz.underlying34 rfl (unhide HSZ) ?_)
  refine (unhide HB _).mono ?_
  rintro e y3 ⟨rfl, hy3⟩
  have H3 := hide (show Blk y3 g rl.toArray 34 ∧ Below g w y3 from ⟨(unhide H2).1.below hy3 (unhide H2).1.lt, (unhide H2).2.trans (hy3.mono (Nat.le_of_lt (unhide H2).1.lt))⟩)
  have d4 := (unhide HCE y3 (unhide H3).1).1
  have d6 := (unhide HCE y3 (unhide H3).1).2.2.1
  have d7 := (unhide HCE y3 (unhide H3).1).2.2.2
  clear hy3 HRG H2
  cases RB
  all_goals (
    go_wp2_with (first | (go_at_call 76; refine (unhide HN _).mono ?_; rintro e y ⟨rfl, hy⟩; subst y))
    go_ret
    exact ⟨rfl, (unhide H3).2⟩)
set_option maxHeartbeats 8000000 in
theorem rgood_8 (r : Rep) (V Pl : List Int) (hvm : V.length = r.vm) (hpm : Pl.length = r.pm) (hm9 : r.vm ≤ 9000000000000000000 ∧ r.pm ≤ 9000000000000000000) (h1 : decide (r.st < 0) = false) (h2 : decide (r.st > 13) = false) (hfull : fullP 8 r.st = true) (w : World) (hLV : Lst w w.heap.size r.vp V) (hLP : Lst w w.heap.size r.pp Pl) : Calls Tryz.prog 46 #[.int .i64 8, .agg r.cl.toArray] w fun e w' => e = .returned (.bool (blankB r false false true false && decide (0 ≤ r.no ∧ r.no ≤ 4294967295) && plB Pl)) ∧ Below w.heap.size w w' := by
  obtain ⟨g, hg⟩ : ∃ g, w.heap.size = g := ⟨_, rfl⟩
  obtain ⟨x, hx⟩ : ∃ Z, w.alloc (.cells r.cl.toArray 34) = Z := ⟨_, rfl⟩
  have B : Blk x g r.cl.toArray 34 := by rw [← hx, ← hg]; exact Blk.new w _ _
  have hb : Below g w x := by rw [← hx, ← hg]; exact (Below.refl _ w).alloc (Nat.le_refl _) _
  have HX := hide (And.intro B hb)
  have HW := hide (rwhole_any 8 r.st)
  rw [hfull] at HW
  have HR := hide (fun W (q : Below g w W) => rising_any W r.vp r.vc r.vm V hvm (((hg ▸ hLV).below q).mono (by rw [← hg]; exact q.size)) hm9.1)
  have HP := hide (fun W (q : Below g w W) => askedL_any W r.pp r.pc r.pm Pl hpm (((hg ▸ hLP).below q).mono (by rw [← hg]; exact q.size)) hm9.2)
  have HB := hide (fun W => blank_any r false false true false W)
  have HQ := hide (within_any r.qu 0 65535)
  have HC := hide (within_any r.ch 0 65535)
  have HN := hide (within_any r.no 0 4294967295)
  have HSZ := hide (show (Tryz.prog.info? 34).map (·.size) = some r.cl.length from size_rep)
  have HCE := hide (show ∀ W, Blk W g r.cl.toArray 34 → W.cell? ⟨g, 4, none⟩ = some (.int .i64 r.no) ∧ W.cell? ⟨g, 5, none⟩ = some (.slice r.pp r.pm r.pc) ∧ W.cell? ⟨g, 6, none⟩ = some (.string r.wr) ∧ W.cell? ⟨g, 7, none⟩ = some (.string r.da) from fun W q => ⟨q.cell 4, q.cell 5, q.cell 6, q.cell 7⟩)
  have d0 : x.cell? ⟨g, 0, none⟩ = some (.int .i64 r.st) := by rw [B.cell]; rfl
  have d1 : x.cell? ⟨g, 1, none⟩ = some (.int .i64 r.qu) := by rw [B.cell]; rfl
  have d2 : x.cell? ⟨g, 2, none⟩ = some (.int .i64 r.ch) := by rw [B.cell]; rfl
  have d3 : x.cell? ⟨g, 3, none⟩ = some (.slice r.vp r.vm r.vc) := by rw [B.cell]; rfl
  clear B hb hfull hLV hLP hvm hpm hm9
  rw [hg]
  generalize blankB r false false true false = RB at *
  generalize voB V = RV at *
  generalize plB Pl = RP at *
  generalize decide (0 ≤ r.qu ∧ r.qu ≤ 65535) = Q1 at *
  generalize decide (0 ≤ r.ch ∧ r.ch ≤ 65535) = Q2 at *
  generalize decide (0 ≤ r.no ∧ r.no ≤ 4294967295) = QN at *
  generalize r.cl = rl at *
  generalize r.st = st at *
  generalize r.qu = qu at *
  generalize r.ch = ch at *
  generalize r.no = no at *
  generalize r.vp = vp at *
  generalize r.vm = vm at *
  generalize r.vc = vc at *
  generalize r.pp = pp at *
  generalize r.pm = pm at *
  generalize r.pc = pc at *
  generalize r.wr = wr at *
  generalize r.da = da at *
  obtain ⟨QQ, hQQ⟩ : ∃ Z, (Q1 && Q2) = Z := ⟨_, rfl⟩
  skip
  have HQQ := hide hQQ
  clear hQQ
  go_enter Tryz.func46, Tryz.ntmps46
  go_upto_region 6 with (first | (go_at_call 74; refine (unhide HW _).mono ?_; rintro e y ⟨rfl, hy⟩; subst y))
  go_cut [6] (fun s6 wx => s6 = .bool QQ ∧ wx = x)
  case first =>
    cases Q1 with
    | false =>
      go_wp2_with (first | (go_at_call 76; refine (unhide HQ _).mono ?_; rintro e y ⟨rfl, hy⟩; subst y))
      go_meet
      exact ⟨congrArg Value.bool (unhide HQQ), rfl⟩
    | true =>
      go_wp2_with fail
      refine (unhide HQ _).mono ?_
      rintro e y ⟨rfl, hy⟩
      subst y
      go_wp2_with fail
      refine (unhide HC _).mono ?_
      rintro e y ⟨rfl, hy⟩
      subst y
      go_wp2_with fail
      go_meet
      exact ⟨congrArg Value.bool (unhide HQQ), rfl⟩
  case rest =>
  obtain ⟨rfl, rfl⟩ := hcut
  clear HQQ
  clear d0 d1 d2
  go_wp2_with fail
  refine (unhide HR _ (unhide HX).2).mono ?_
  rintro e y1 ⟨rfl, hy1⟩
  have H1 := hide (show Blk y1 g rl.toArray 34 ∧ Below g w y1 from ⟨(unhide HX).1.below hy1 (unhide HX).1.lt, (unhide HX).2.trans (hy1.mono (Nat.le_of_lt (unhide HX).1.lt))⟩)
  have d5 := (unhide HCE y1 (unhide H1).1).2.1
  clear hy1 d3 HX
  go_wp2_with fail
  refine (unhide HP _ (unhide H1).2).mono ?_
  rintro e y2 ⟨rfl, hy2⟩
  have H2 := hide (show Blk y2 g rl.toArray 34 ∧ Below g w y2 from ⟨(unhide H1).1.below hy2 (unhide H1).1.lt, (unhide H1).2.trans (hy2.mono (Nat.le_of_lt (unhide H1).1.lt))⟩)
  have HRG := hide (show y2.rangeAt g 0 rl from blk_range (unhide H2).1)
  clear hy2 d5 H1
  go_wp2_with (refine wpList_load_mid rfl 34 (.tmp 3) rfl g 0 rfl rl _ (unhide HRG) Tryz.underlying34 rfl (unhide HSZ) ?_)
  refine (unhide HB _).mono ?_
  rintro e y3 ⟨rfl, hy3⟩
  have H3 := hide (show Blk y3 g rl.toArray 34 ∧ Below g w y3 from ⟨(unhide H2).1.below hy3 (unhide H2).1.lt, (unhide H2).2.trans (hy3.mono (Nat.le_of_lt (unhide H2).1.lt))⟩)
  have d4 := (unhide HCE y3 (unhide H3).1).1
  have d6 := (unhide HCE y3 (unhide H3).1).2.2.1
  have d7 := (unhide HCE y3 (unhide H3).1).2.2.2
  clear hy3 HRG H2
  cases RB <;> cases QN
  all_goals (
    go_wp2_with (first | (go_at_call 76; refine (unhide HN _).mono ?_; rintro e y ⟨rfl, hy⟩; subst y))
    go_ret
    exact ⟨rfl, (unhide H3).2⟩)
set_option maxHeartbeats 8000000 in
theorem rgood_11 (r : Rep) (V Pl : List Int) (hvm : V.length = r.vm) (hpm : Pl.length = r.pm) (hm9 : r.vm ≤ 9000000000000000000 ∧ r.pm ≤ 9000000000000000000) (h1 : decide (r.st < 0) = false) (h2 : decide (r.st > 13) = false) (hfull : fullP 11 r.st = true) (w : World) (hLV : Lst w w.heap.size r.vp V) (hLP : Lst w w.heap.size r.pp Pl) : Calls Tryz.prog 46 #[.int .i64 11, .agg r.cl.toArray] w fun e w' => e = .returned (.bool (blankB r false false false true && ((r.wr.size : Int) == 48) && ((r.da.size : Int) == 256))) ∧ Below w.heap.size w w' := by
  obtain ⟨g, hg⟩ : ∃ g, w.heap.size = g := ⟨_, rfl⟩
  obtain ⟨x, hx⟩ : ∃ Z, w.alloc (.cells r.cl.toArray 34) = Z := ⟨_, rfl⟩
  have B : Blk x g r.cl.toArray 34 := by rw [← hx, ← hg]; exact Blk.new w _ _
  have hb : Below g w x := by rw [← hx, ← hg]; exact (Below.refl _ w).alloc (Nat.le_refl _) _
  have HX := hide (And.intro B hb)
  have HW := hide (rwhole_any 11 r.st)
  rw [hfull] at HW
  have HR := hide (fun W (q : Below g w W) => rising_any W r.vp r.vc r.vm V hvm (((hg ▸ hLV).below q).mono (by rw [← hg]; exact q.size)) hm9.1)
  have HP := hide (fun W (q : Below g w W) => askedL_any W r.pp r.pc r.pm Pl hpm (((hg ▸ hLP).below q).mono (by rw [← hg]; exact q.size)) hm9.2)
  have HB := hide (fun W => blank_any r false false false true W)
  have HQ := hide (within_any r.qu 0 65535)
  have HC := hide (within_any r.ch 0 65535)
  have HN := hide (within_any r.no 0 4294967295)
  have HSZ := hide (show (Tryz.prog.info? 34).map (·.size) = some r.cl.length from size_rep)
  have HCE := hide (show ∀ W, Blk W g r.cl.toArray 34 → W.cell? ⟨g, 4, none⟩ = some (.int .i64 r.no) ∧ W.cell? ⟨g, 5, none⟩ = some (.slice r.pp r.pm r.pc) ∧ W.cell? ⟨g, 6, none⟩ = some (.string r.wr) ∧ W.cell? ⟨g, 7, none⟩ = some (.string r.da) from fun W q => ⟨q.cell 4, q.cell 5, q.cell 6, q.cell 7⟩)
  have d0 : x.cell? ⟨g, 0, none⟩ = some (.int .i64 r.st) := by rw [B.cell]; rfl
  have d1 : x.cell? ⟨g, 1, none⟩ = some (.int .i64 r.qu) := by rw [B.cell]; rfl
  have d2 : x.cell? ⟨g, 2, none⟩ = some (.int .i64 r.ch) := by rw [B.cell]; rfl
  have d3 : x.cell? ⟨g, 3, none⟩ = some (.slice r.vp r.vm r.vc) := by rw [B.cell]; rfl
  clear B hb hfull hLV hLP hvm hpm hm9
  rw [hg]
  generalize blankB r false false false true = RB at *
  generalize voB V = RV at *
  generalize plB Pl = RP at *
  generalize decide (0 ≤ r.qu ∧ r.qu ≤ 65535) = Q1 at *
  generalize decide (0 ≤ r.ch ∧ r.ch ≤ 65535) = Q2 at *
  generalize decide (0 ≤ r.no ∧ r.no ≤ 4294967295) = QN at *
  generalize r.cl = rl at *
  generalize r.st = st at *
  generalize r.qu = qu at *
  generalize r.ch = ch at *
  generalize r.no = no at *
  generalize r.vp = vp at *
  generalize r.vm = vm at *
  generalize r.vc = vc at *
  generalize r.pp = pp at *
  generalize r.pm = pm at *
  generalize r.pc = pc at *
  generalize r.wr = wr at *
  generalize r.da = da at *
  generalize hS1 : ((wr.size : Int) == 48) = S1 at *
  generalize hS2 : ((da.size : Int) == 256) = S2 at *
  obtain ⟨QQ, hQQ⟩ : ∃ Z, (Q1 && Q2) = Z := ⟨_, rfl⟩
  skip
  have HQQ := hide hQQ
  clear hQQ
  go_enter Tryz.func46, Tryz.ntmps46
  go_upto_region 6 with (first | (go_at_call 74; refine (unhide HW _).mono ?_; rintro e y ⟨rfl, hy⟩; subst y))
  go_cut [6] (fun s6 wx => s6 = .bool QQ ∧ wx = x)
  case first =>
    cases Q1 with
    | false =>
      go_wp2_with (first | (go_at_call 76; refine (unhide HQ _).mono ?_; rintro e y ⟨rfl, hy⟩; subst y))
      go_meet
      exact ⟨congrArg Value.bool (unhide HQQ), rfl⟩
    | true =>
      go_wp2_with fail
      refine (unhide HQ _).mono ?_
      rintro e y ⟨rfl, hy⟩
      subst y
      go_wp2_with fail
      refine (unhide HC _).mono ?_
      rintro e y ⟨rfl, hy⟩
      subst y
      go_wp2_with fail
      go_meet
      exact ⟨congrArg Value.bool (unhide HQQ), rfl⟩
  case rest =>
  obtain ⟨rfl, rfl⟩ := hcut
  clear HQQ
  clear d0 d1 d2
  go_wp2_with fail
  refine (unhide HR _ (unhide HX).2).mono ?_
  rintro e y1 ⟨rfl, hy1⟩
  have H1 := hide (show Blk y1 g rl.toArray 34 ∧ Below g w y1 from ⟨(unhide HX).1.below hy1 (unhide HX).1.lt, (unhide HX).2.trans (hy1.mono (Nat.le_of_lt (unhide HX).1.lt))⟩)
  have d5 := (unhide HCE y1 (unhide H1).1).2.1
  clear hy1 d3 HX
  go_wp2_with fail
  refine (unhide HP _ (unhide H1).2).mono ?_
  rintro e y2 ⟨rfl, hy2⟩
  have H2 := hide (show Blk y2 g rl.toArray 34 ∧ Below g w y2 from ⟨(unhide H1).1.below hy2 (unhide H1).1.lt, (unhide H1).2.trans (hy2.mono (Nat.le_of_lt (unhide H1).1.lt))⟩)
  have HRG := hide (show y2.rangeAt g 0 rl from blk_range (unhide H2).1)
  clear hy2 d5 H1
  go_wp2_with (refine wpList_load_mid rfl 34 (.tmp 3) rfl g 0 rfl rl _ (unhide HRG) Tryz.underlying34 rfl (unhide HSZ) ?_)
  refine (unhide HB _).mono ?_
  rintro e y3 ⟨rfl, hy3⟩
  have H3 := hide (show Blk y3 g rl.toArray 34 ∧ Below g w y3 from ⟨(unhide H2).1.below hy3 (unhide H2).1.lt, (unhide H2).2.trans (hy3.mono (Nat.le_of_lt (unhide H2).1.lt))⟩)
  have d4 := (unhide HCE y3 (unhide H3).1).1
  have d6 := (unhide HCE y3 (unhide H3).1).2.2.1
  have d7 := (unhide HCE y3 (unhide H3).1).2.2.2
  clear hy3 HRG H2
  cases RB <;> cases S1
  all_goals (
    go_wp2_with (first | (go_at_call 76; refine (unhide HN _).mono ?_; rintro e y ⟨rfl, hy⟩; subst y))
    go_ret
    exact ⟨rfl, (unhide H3).2⟩)
end Go.Proofs.YtclgkgaobjcifaaGreatDoor

namespace Go.Proofs.YtclgkgaobjcifaaGreatDoor
open Go.RowKit
set_option maxRecDepth 100000
theorem bareP_eq (r : Rep) : bareP r = blankB r false false false false := by
  unfold bareP blankB blankE
  have e6 : r.wr.toList.isEmpty = decide (r.wr = ⟨#[]⟩) := by
    by_cases h : r.wr = ⟨#[]⟩
    · rw [empty_eq _ h, decide_eq_true h]
    · rw [empty_ne h, decide_eq_false h]
  have e7 : r.da.toList.isEmpty = decide (r.da = ⟨#[]⟩) := by
    by_cases h : r.da = ⟨#[]⟩
    · rw [empty_eq _ h, decide_eq_true h]
    · rw [empty_ne h, decide_eq_false h]
  rw [e6, e7]
  apply Bool.eq_iff_iff.2
  simp only [decide_eq_true_eq, Bool.and_eq_true, Bool.false_or, beq_iff_eq]
  constructor
  · rintro ⟨a1, a2, a3, a4, a5, a6, a7⟩
    exact ⟨⟨⟨⟨a1, a2⟩, by omega⟩, a4, by omega⟩, a6, a7⟩
  · rintro ⟨⟨⟨⟨a1, a2⟩, a3⟩, a4, a5⟩, a6, a7⟩
    exact ⟨a1, a2, by omega, a4, by omega, a6, a7⟩
theorem emp_nil : (⟨#[]⟩ : ByteArray).toList.isEmpty = true := empty_eq _ rfl
theorem lgB_3 (r : Rep) (V Pl : List Int) : lgB 3 r V Pl = (blankB r true true false false && (decide (0 ≤ r.qu ∧ r.qu ≤ 65535) && decide (0 ≤ r.ch ∧ r.ch ≤ 65535)) && voB V) := by
  have o0 : okG fQuo (exr fQuo r Prt.nil).2 V Pl = decide (0 ≤ r.qu ∧ r.qu ≤ 65535) := rfl
  have o1 : okG fCha (exr fCha (exr fQuo r Prt.nil).1 Prt.nil).2 V Pl = decide (0 ≤ r.ch ∧ r.ch ≤ 65535) := rfl
  have o2 : okG fVos (exr fVos (exr fCha (exr fQuo r Prt.nil).1 Prt.nil).1 Prt.nil).2 V Pl = voB V := rfl
  unfold lgB
  rw [show rpF 3 = [fQuo, fCha, fVos] from rfl]
  simp only [layG, o0, o1, o2]
  clear o0 o1 o2
  generalize decide (0 ≤ r.qu ∧ r.qu ≤ 65535) = D0 at *
  generalize decide (0 ≤ r.ch ∧ r.ch ≤ 65535) = D1 at *
  generalize voB V = D2 at *
  cases D0 <;> cases D1 <;> cases D2
  all_goals (first | (simp; done) | (show bareP (⟨r.st, 0, 0, none, 0, 0, r.no, r.pp, r.pm, r.pc, r.wr, r.da⟩ : Rep) = _; rw [bareP_eq]; show blankE false true true false true false (r.no == 0) ((r.pm : Int) == 0) false r.wr.toList.isEmpty r.da.toList.isEmpty = _; unfold blankB; generalize (r.qu == 0) = e1; generalize (r.ch == 0) = e2; generalize ((r.vm : Int) == 0) = e3; generalize (r.no == 0) = e4; generalize ((r.pm : Int) == 0) = e5; generalize r.wr.toList.isEmpty = e6; generalize r.da.toList.isEmpty = e7; cases e1 <;> cases e2 <;> cases e3 <;> cases e4 <;> cases e5 <;> cases e6 <;> cases e7 <;> rfl))
theorem lgB_6 (r : Rep) (V Pl : List Int) : lgB 6 r V Pl = (blankB r false true false false && voB V) := by
  have o0 : okG fVos (exr fVos r Prt.nil).2 V Pl = voB V := rfl
  unfold lgB
  rw [show rpF 6 = [fVos] from rfl]
  simp only [layG, o0]
  clear o0
  generalize voB V = D0 at *
  cases D0
  all_goals (first | (simp; done) | (show bareP (⟨r.st, r.qu, r.ch, none, 0, 0, r.no, r.pp, r.pm, r.pc, r.wr, r.da⟩ : Rep) = _; rw [bareP_eq]; show blankE false (r.qu == 0) (r.ch == 0) false true false (r.no == 0) ((r.pm : Int) == 0) false r.wr.toList.isEmpty r.da.toList.isEmpty = _; unfold blankB; generalize (r.qu == 0) = e1; generalize (r.ch == 0) = e2; generalize ((r.vm : Int) == 0) = e3; generalize (r.no == 0) = e4; generalize ((r.pm : Int) == 0) = e5; generalize r.wr.toList.isEmpty = e6; generalize r.da.toList.isEmpty = e7; cases e1 <;> cases e2 <;> cases e3 <;> cases e4 <;> cases e5 <;> cases e6 <;> cases e7 <;> rfl))
theorem lgB_7 (r : Rep) (V Pl : List Int) : lgB 7 r V Pl = (blankB r true false false false && (decide (0 ≤ r.qu ∧ r.qu ≤ 65535) && decide (0 ≤ r.ch ∧ r.ch ≤ 65535))) := by
  have o0 : okG fQuo (exr fQuo r Prt.nil).2 V Pl = decide (0 ≤ r.qu ∧ r.qu ≤ 65535) := rfl
  have o1 : okG fCha (exr fCha (exr fQuo r Prt.nil).1 Prt.nil).2 V Pl = decide (0 ≤ r.ch ∧ r.ch ≤ 65535) := rfl
  unfold lgB
  rw [show rpF 7 = [fQuo, fCha] from rfl]
  simp only [layG, o0, o1]
  clear o0 o1
  generalize decide (0 ≤ r.qu ∧ r.qu ≤ 65535) = D0 at *
  generalize decide (0 ≤ r.ch ∧ r.ch ≤ 65535) = D1 at *
  cases D0 <;> cases D1
  all_goals (first | (simp; done) | (show bareP (⟨r.st, 0, 0, r.vp, r.vm, r.vc, r.no, r.pp, r.pm, r.pc, r.wr, r.da⟩ : Rep) = _; rw [bareP_eq]; show blankE false true true false ((r.vm : Int) == 0) false (r.no == 0) ((r.pm : Int) == 0) false r.wr.toList.isEmpty r.da.toList.isEmpty = _; unfold blankB; generalize (r.qu == 0) = e1; generalize (r.ch == 0) = e2; generalize ((r.vm : Int) == 0) = e3; generalize (r.no == 0) = e4; generalize ((r.pm : Int) == 0) = e5; generalize r.wr.toList.isEmpty = e6; generalize r.da.toList.isEmpty = e7; cases e1 <;> cases e2 <;> cases e3 <;> cases e4 <;> cases e5 <;> cases e6 <;> cases e7 <;> rfl))
theorem lgB_8 (r : Rep) (V Pl : List Int) : lgB 8 r V Pl = (blankB r false false true false && decide (0 ≤ r.no ∧ r.no ≤ 4294967295) && plB Pl) := by
  have o0 : okG fNon (exr fNon r Prt.nil).2 V Pl = decide (0 ≤ r.no ∧ r.no ≤ 4294967295) := rfl
  have o1 : okG fPla (exr fPla (exr fNon r Prt.nil).1 Prt.nil).2 V Pl = plB Pl := rfl
  unfold lgB
  rw [show rpF 8 = [fNon, fPla] from rfl]
  simp only [layG, o0, o1]
  clear o0 o1
  generalize decide (0 ≤ r.no ∧ r.no ≤ 4294967295) = D0 at *
  generalize plB Pl = D1 at *
  cases D0 <;> cases D1
  all_goals (first | (simp; done) | (show bareP (⟨r.st, r.qu, r.ch, r.vp, r.vm, r.vc, 0, none, 0, 0, r.wr, r.da⟩ : Rep) = _; rw [bareP_eq]; show blankE false (r.qu == 0) (r.ch == 0) false ((r.vm : Int) == 0) false true true false r.wr.toList.isEmpty r.da.toList.isEmpty = _; unfold blankB; generalize (r.qu == 0) = e1; generalize (r.ch == 0) = e2; generalize ((r.vm : Int) == 0) = e3; generalize (r.no == 0) = e4; generalize ((r.pm : Int) == 0) = e5; generalize r.wr.toList.isEmpty = e6; generalize r.da.toList.isEmpty = e7; cases e1 <;> cases e2 <;> cases e3 <;> cases e4 <;> cases e5 <;> cases e6 <;> cases e7 <;> rfl))
theorem lgB_11 (r : Rep) (V Pl : List Int) : lgB 11 r V Pl = (blankB r false false false true && ((r.wr.size : Int) == 48) && ((r.da.size : Int) == 256)) := by
  have s1 : ((r.wr.size : Int) == 48) = decide (r.wr.size = 48) := by
    apply Bool.eq_iff_iff.2
    simp only [beq_iff_eq, decide_eq_true_eq]
    omega
  have s2 : ((r.da.size : Int) == 256) = decide (r.da.size = 256) := by
    apply Bool.eq_iff_iff.2
    simp only [beq_iff_eq, decide_eq_true_eq]
    omega
  rw [s1, s2]
  clear s1 s2
  have o0 : okG fWra (exr fWra r Prt.nil).2 V Pl = decide (r.wr.size = 48) := rfl
  have o1 : okG fDat (exr fDat (exr fWra r Prt.nil).1 Prt.nil).2 V Pl = decide (r.da.size = 256) := rfl
  unfold lgB
  rw [show rpF 11 = [fWra, fDat] from rfl]
  simp only [layG, o0, o1]
  clear o0 o1
  generalize decide (r.wr.size = 48) = D0 at *
  generalize decide (r.da.size = 256) = D1 at *
  cases D0 <;> cases D1
  all_goals (first | (simp; done) | (show bareP (⟨r.st, r.qu, r.ch, r.vp, r.vm, r.vc, r.no, r.pp, r.pm, r.pc, ⟨#[]⟩, ⟨#[]⟩⟩ : Rep) = _; rw [bareP_eq]; show blankE false (r.qu == 0) (r.ch == 0) false ((r.vm : Int) == 0) false (r.no == 0) ((r.pm : Int) == 0) false (⟨#[]⟩ : ByteArray).toList.isEmpty (⟨#[]⟩ : ByteArray).toList.isEmpty = _; rw [emp_nil]; unfold blankB; generalize (r.qu == 0) = e1; generalize (r.ch == 0) = e2; generalize ((r.vm : Int) == 0) = e3; generalize (r.no == 0) = e4; generalize ((r.pm : Int) == 0) = e5; generalize r.wr.toList.isEmpty = e6; generalize r.da.toList.isEmpty = e7; cases e1 <;> cases e2 <;> cases e3 <;> cases e4 <;> cases e5 <;> cases e6 <;> cases e7 <;> rfl))
theorem lgB_o (kd : Int) (h : rpF kd = []) (r : Rep) (V Pl : List Int) : lgB kd r V Pl = blankB r false false false false := by
  unfold lgB
  rw [h]
  exact bareP_eq r
set_option maxHeartbeats 8000000 in
theorem rgood_not (kd : Int) (r : Rep) (h1 : decide (r.st < 0) = false) (h2 : decide (r.st > 13) = false) (hfull : fullP kd r.st = false) (w : World) : Calls Tryz.prog 46 #[.int .i64 kd, .agg r.cl.toArray] w fun e w' => e = .returned (.bool (bareP r)) ∧ Below w.heap.size w w' := by
  rw [bareP_eq]
  obtain ⟨g, hg⟩ : ∃ g, w.heap.size = g := ⟨_, rfl⟩
  obtain ⟨x, hx⟩ : ∃ Z, w.alloc (.cells r.cl.toArray 34) = Z := ⟨_, rfl⟩
  have B : Blk x g r.cl.toArray 34 := by rw [← hx, ← hg]; exact Blk.new w _ _
  have hb : Below g w x := by rw [← hx, ← hg]; exact (Below.refl _ w).alloc (Nat.le_refl _) _
  have HX := hide (And.intro B hb)
  have HW := hide (rwhole_any kd r.st)
  rw [hfull] at HW
  have HB := hide (fun W => blank_any r false false false false W)
  have HSZ := hide (show (Tryz.prog.info? 34).map (·.size) = some r.cl.length from size_rep)
  have d0 : x.cell? ⟨g, 0, none⟩ = some (.int .i64 r.st) := by rw [B.cell]; rfl
  have HRG := hide (show x.rangeAt g 0 r.cl from blk_range B)
  clear B hb hfull
  rw [hg]
  generalize blankB r false false false false = RB at *
  generalize r.cl = rl at *
  generalize r.st = st at *
  go_enter Tryz.func46, Tryz.ntmps46
  go_wp2_with (first | (go_at_call 74; refine (unhide HW _).mono ?_; rintro e y ⟨rfl, hy⟩; subst y) | refine wpList_load_mid rfl 34 (.tmp 3) rfl g 0 rfl rl _ (unhide HRG) Tryz.underlying34 rfl (unhide HSZ) ?_)
  refine (unhide HB _).mono ?_
  rintro e y3 ⟨rfl, hy3⟩
  have H3 := hide (show Below g w y3 from (unhide HX).2.trans (hy3.mono (Nat.le_of_lt (unhide HX).1.lt)))
  clear hy3
  go_wp2
  go_ret
  exact ⟨rfl, unhide H3⟩
set_option maxHeartbeats 8000000 in
theorem rgood_stat (kd : Int) (r : Rep) (h : ¬ (0 ≤ r.st ∧ r.st ≤ 13)) (w : World) : Calls Tryz.prog 46 #[.int .i64 kd, .agg r.cl.toArray] w fun e w' => e = .returned (.bool false) ∧ Below w.heap.size w w' := by
  obtain ⟨g, hg⟩ : ∃ g, w.heap.size = g := ⟨_, rfl⟩
  obtain ⟨x, hx⟩ : ∃ Z, w.alloc (.cells r.cl.toArray 34) = Z := ⟨_, rfl⟩
  have B : Blk x g r.cl.toArray 34 := by rw [← hx, ← hg]; exact Blk.new w _ _
  have hb : Below g w x := by rw [← hx, ← hg]; exact (Below.refl _ w).alloc (Nat.le_refl _) _
  have HX := hide hb
  have d0 : x.cell? ⟨g, 0, none⟩ = some (.int .i64 r.st) := by rw [B.cell]; rfl
  clear B hb
  rw [hg]
  generalize r.cl = rl at *
  generalize r.st = st at *
  by_cases h0 : st < 0
  · have h1 : decide (st < 0) = true := decide_eq_true h0
    clear h h0
    go_enter Tryz.func46, Tryz.ntmps46
    go_wp2
    go_ret
    exact ⟨rfl, unhide HX⟩
  · have h1 : decide (st < 0) = false := decide_eq_false h0
    have h2 : decide (st > 13) = true := decide_eq_true (by omega)
    clear h h0
    go_enter Tryz.func46, Tryz.ntmps46
    go_wp2
    go_ret
    exact ⟨rfl, unhide HX⟩
theorem rgood_any (k : Nat) (hk : k ≤ 12) (r : Rep) (V Pl : List Int) (hvm : V.length = r.vm) (hpm : Pl.length = r.pm) (hm9 : r.vm ≤ 9000000000000000000 ∧ r.pm ≤ 9000000000000000000) (w : World) (hLV : Lst w w.heap.size r.vp V) (hLP : Lst w w.heap.size r.pp Pl) : Calls Tryz.prog 46 #[.int .i64 (k : Int), .agg r.cl.toArray] w fun e w' => e = .returned (.bool (decide (0 ≤ r.st ∧ r.st ≤ 13) && lyB (k : Int) r V Pl)) ∧ Below w.heap.size w w' := by
  by_cases hs : 0 ≤ r.st ∧ r.st ≤ 13
  · rw [decide_eq_true hs, Bool.true_and, lyB]
    have h1 : decide (r.st < 0) = false := decide_eq_false (by omega)
    have h2 : decide (r.st > 13) = false := decide_eq_false (by omega)
    by_cases hf : fullP (k : Int) r.st = true
    · rw [if_pos hf]
      rcases rpF_kinds hk with rfl | rfl | rfl | rfl | rfl | ⟨e, n3, n6, n7, n8, n11⟩
      · exact (lgB_3 r V Pl) ▸ rgood_3 r V Pl hvm hpm hm9 h1 h2 hf w hLV hLP
      · exact (lgB_6 r V Pl) ▸ rgood_6 r V Pl hvm hpm hm9 h1 h2 hf w hLV hLP
      · exact (lgB_7 r V Pl) ▸ rgood_7 r V Pl hvm hpm hm9 h1 h2 hf w hLV hLP
      · exact (lgB_8 r V Pl) ▸ rgood_8 r V Pl hvm hpm hm9 h1 h2 hf w hLV hLP
      · exact (lgB_11 r V Pl) ▸ rgood_11 r V Pl hvm hpm hm9 h1 h2 hf w hLV hLP
      · rw [lgB_o _ e r V Pl]
        exact rgood_o (k : Int) (by simpa using n3) (by simpa using n6) (by simpa using n7) (by simpa using n8) (by simpa using n11) r V Pl hvm hpm hm9 h1 h2 hf w hLV hLP
    · rw [if_neg hf]
      exact rgood_not (k : Int) r h1 h2 (by simpa using hf) w
  · rw [decide_eq_false hs, Bool.false_and]
    exact rgood_stat (k : Int) r hs w
end Go.Proofs.YtclgkgaobjcifaaGreatDoor
