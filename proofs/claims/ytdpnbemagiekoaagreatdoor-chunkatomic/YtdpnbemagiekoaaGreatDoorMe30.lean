import Derived.Test.YtdpnbemagiekoaaGreatDoorMe29
set_option maxHeartbeats 4000000
set_option maxRecDepth 100000
namespace Go.Proofs.YtdpnbemagiekoaaGreatDoor
open List renaming getElem_toArray -> lD, getElem_cons_succ -> lE, getElem_cons_zero -> lF
section
open Go.RowKit Go.Maps Go.Sort Go.Shelf
theorem zBh {ops : Array Oper} {S : World -> Prop} {op : Oper} {a : Act} (hw : Region.wanted op (yielded ops a.tmps) = true) (t : TypeId) (x y : Operand) (ho : op.op = .build t #[(0, x), (1, y)]) (cells : Array Value) (vx vy : Value) (hx : a.eval x = vx) (hy : a.eval y = vy)
  (hb : Tryz.prog.built t [(0, vx), (1, vy)] = some cells) : YieldsIf Tryz.prog ops S op (.agg cells) a :=
 .inl ⟨hw, fun w _ => by
  have e : ((#[(0, x), (1, y)] : Array (Nat × Operand)).map fun (i, x) => (i, a.eval x)) = #[(0, vx), (1, vy)] := by simp [hx, hy]
  unfold execOp
  simp only [ho, e, Sem.run_bind, run_build w t #[(0, vx), (1, vy)] cells hb, Result.andThen_ok]
  rfl⟩
theorem zMx {w0 w : World} {b jb pb xb eb bm : Nat} {Y : Nat -> Prop} {a n : Nat} {S : PS} {L : List ByteArray} {A : List (Nat × Nat)} {hn : Nat} {Mw Mn : List ByteArray} {T : Nat -> En} (h : IG w0 w b jb pb xb eb bm Y a n S L A hn Mw Mn T T) (ho : S.op = true) (i : Nat) (hi : i < n) (d : ByteArray) (hd : d.size = 32) (c : Nat) (hc1 : 1 <= c) (hc2 : c <= 65535) (c' : Nat) (hT : T i = some (d, c')) (hr : zAQ S ((a + i / 6 : Nat) : Int) = true) :
  Calls Tryz.prog 14 #[.pointer (some ⟨xb, 0, none⟩), .agg #[.int .i64 (i : Int), .string d, .int .i64 (c : Int)]] w fun e w' => e = .returned (.int .i64 0) /\ IChg w0 w b jb pb xb eb bm Y a n S L A hn Mw (upd T i (some (d, c))) i w' := by
 have hn96 := h.n2
 have hok : EnOk (some (d, c)) := fun d' c'' q => by
  obtain ⟨rfl, rfl⟩ : d = d' /\ c = c'' := by simpa using q
  exact ⟨hd, hc1, hc2⟩
 obtain ⟨g, hg⟩ : ∃ q, w.heap.size = q := ⟨_, rfl⟩
 obtain ⟨x1, hx1⟩ : ∃ q, w.alloc (.cells #[.int .i64 (i : Int), .string d, .int .i64 (c : Int)] 40) = q := ⟨_, rfl⟩
 have hb1 : Below w.heap.size w x1 := by rw [<- hx1]; exact (Below.refl _ w).alloc (Nat.le_refl _) _
 have B1 : Blk x1 g #[.int .i64 (i : Int), .string d, .int .i64 (c : Int)] 40 := by rw [<- hx1, <- hg]; exact Blk.new w _ _
 have G1 : IG w0 x1 b jb pb xb eb bm (fun x => Y x ∨ x = g) a n S L A hn Mw Mn T T := h.more hb1 (fun x hx => by
  rcases hx with q | q
  ·exact .inl q
  ·rw [q, <- hg]; exact .inr ⟨Nat.le_refl _, by rw [hg]; exact B1.lt⟩)
 have s0 : x1.cell? ⟨g, 0, none⟩ = some (.int .i64 (i : Int)) := B1.cell 0
 have s1 : x1.cell? ⟨g, 1, none⟩ = some (.string d) := B1.cell 1
 have s2 : x1.cell? ⟨g, 2, none⟩ = some (.int .i64 (c : Int)) := B1.cell 2
 have HHA := uB (zC5 (G1.below ((Below.refl _ x1).drew)).im.mm (i : Int))
 rw [decide_eq_true (show (0 : Int) <= (i : Int) by omega), decide_eq_true (show (i : Int) < (n : Int) by omega)] at HHA
 have HDG := uB (fun W => zB6 d W)
 rw [show ((d.size : Int) == 32) = true by rw [hd]; rfl] at HDG
 have HTI := uB (fun W => zCf (c : Int) W)
 rw [decide_eq_true (show (1 : Int) <= (c : Int) by omega), decide_eq_true (show (c : Int) <= 65535 by omega)] at HTI
 have HCH := uB ((G1.below ((Below.refl _ x1).drew)).changeable)
 rw [ho] at HCH
 have HKO := uB (fun W => zDC d hd W)
 have HBU := uB (zEN (kC d) (zBm d hd) (c : Int))
 have HEL := uB (zEX d hd (c : Int))
 have HE1 := uB (all_oneCell_toArray (zFm d (c : Int)))
 have HKL := uB (zBm d hd)
 have HLK := uB (fun W (hW : PM W bm n T) => hW.hit hT hd)
 have HW := uB (And.intro h (And.intro ho (And.intro hi (And.intro hd (And.intro hok (And.intro hb1 (And.intro B1 hg)))))))
 have HX := uB (And.intro hT hr)
 have hq : ((i : Int) != (i : Int)) = false := by simp
 clear h ho hd hok hb1 B1 G1 hc1 hc2 hi hT hr
 go_enter Tryz.func14, Tryz.ntmps14
 go_wp2
 refine wp_region_held_drew (S := fun w' => w'.cell? ⟨g, 0, none⟩ = some (.int .i64 (i : Int))) (by kernel_rfl) s0 ?_
 intro hS
 refine yL 0 (some 8) (.pointer (some ⟨xb, 0, none⟩)) rfl (fun w hSw => by have q1 : _ = _ := hSw; go_simp) hS ?_
 refine yL 1 (some 9) (.pointer (some ⟨xb, 0, none⟩)) rfl (fun w hSw => by have q1 : _ = _ := hSw; go_simp) hS ?_
 refine yL 2 (some 10) (.pointer (some ⟨xb, 2, none⟩)) rfl (fun w hSw => by have q1 : _ = _ := hSw; go_simp) hS ?_
 refine yL 3 (some 11) (.pointer (some ⟨g, 0, none⟩)) rfl (fun w hSw => by have q1 : _ = _ := hSw; go_simp) hS ?_
 refine yL 4 (some 12) (.int .i64 (i : Int)) rfl (fun w hSw => by have q1 : _ = _ := hSw; go_simp) hS ?_
 refine wpAnyH_ready (rs := [5]) (by kernel_rfl) (by simp) ?_
 refine AllReadyH.cons rfl (fun K hK => ?_) AllReadyH.nil
 simp only [lD, lE, lF]
 go_simp
 refine (uA HHA).mono ?_
 rintro e w' ⟨rfl, hw'⟩
 subst w'
 refine hK.out _ _ s0 (fun hS => ?_)
 clear hK K
 refine yL 6 (some 14) (.bool false) rfl (fun w hSw => by have q1 : _ = _ := hSw; go_simp) hS ?_
 refine wpAnyH_done (by kernel_rfl) ?_ _
 clear hS
 go_wp2_with (first | (go_at_call 44; refine (uA HDG _).mono ?_; rintro e w' ⟨rfl, hw'⟩; subst w') | (go_at_call 48; refine (uA HTI _).mono ?_; rintro e w' ⟨rfl, hw'⟩; subst w'))
 refine (uA HCH).mono ?_
 rintro e y1 ⟨rfl, G2, hO2⟩
 have hO2' : Only (fun x => ¬ Xf (fun x => Y x ∨ x = g) xb eb bm x) x1 y1 := (Only.of_below (P := fun x => ¬ Xf (fun x => Y x ∨ x = g) xb eb bm x) ((Below.refl _ x1).drew)).trans hO2 (fun _ _ q => q)
 have B2 : Blk y1 g #[.int .i64 (i : Int), .string d, .int .i64 (c : Int)] 40 := (uA HW).2.2.2.2.2.2.1.only hO2' (fun q => q (.inl (.inr rfl)))
 have X2 := uB (And.intro G2 (And.intro hO2' B2))
 have t1 : y1.cell? ⟨g, 1, none⟩ = some (.string d) := B2.cell 1
 have t2 : y1.cell? ⟨g, 2, none⟩ = some (.int .i64 (c : Int)) := B2.cell 2
 clear G2 hO2 hO2' B2 HCH HDG HTI HHA s0 s1 s2
 go_wp2
 refine wp_region_held_drew (S := fun w' => w'.cell? ⟨g, 1, none⟩ = some (.string d) /\ w'.cell? ⟨g, 2, none⟩ = some (.int .i64 (c : Int))) (by kernel_rfl) ⟨t1, t2⟩ ?_
 intro hS
 refine yL 0 (some 28) (.pointer (some ⟨g, 1, none⟩)) rfl (fun w hSw => by obtain ⟨q1, q2⟩ := hSw; go_simp) hS ?_
 refine yL 1 (some 29) (.string d) rfl (fun w hSw => by obtain ⟨q1, q2⟩ := hSw; go_simp) hS ?_
 refine yL 3 (some 31) (.pointer (some ⟨g, 2, none⟩)) rfl (fun w hSw => by obtain ⟨q1, q2⟩ := hSw; go_simp) hS ?_
 refine yL 4 (some 32) (.int .i64 (c : Int)) rfl (fun w hSw => by obtain ⟨q1, q2⟩ := hSw; go_simp) hS ?_
 refine wpAnyH_ready (rs := [2, 6]) (by kernel_rfl) (by simp) ?_
 refine AllReadyH.cons rfl (fun K hK => ?_) (AllReadyH.cons rfl (fun K hK => ?_) AllReadyH.nil)
 ·simp only [lD, lE, lF]
  go_simp
  refine (uA HKO _).mono ?_
  rintro e y2 ⟨rfl, hb2⟩
  have hb2' : Below y1.heap.size y1 y2 := ((Below.refl _ y1).drew).trans hb2
  have hBl := (uA X2).2.2.lt
  have B3 : Blk y2 g #[.int .i64 (i : Int), .string d, .int .i64 (c : Int)] 40 := (uA X2).2.2.below hb2' hBl
  have v1 : y2.cell? ⟨g, 1, none⟩ = some (.string d) := B3.cell 1
  have v2 : y2.cell? ⟨g, 2, none⟩ = some (.int .i64 (c : Int)) := B3.cell 2
  obtain ⟨g2, hg2⟩ : ∃ q, y2.heap.size = q := ⟨_, rfl⟩
  obtain ⟨z, hz⟩ : ∃ q, (y2.alloc (.cells #[.int .u8 0, .int .u8 0, .int .u8 0, .int .u8 0, .int .u8 0, .int .u8 0, .int .u8 0, .int .u8 0, .int .u8 0, .int .u8 0, .int .u8 0, .int .u8 0, .int .u8 0, .int .u8 0, .int .u8 0, .int .u8 0, .int .u8 0, .int .u8 0, .int .u8 0, .int .u8 0, .int .u8 0, .int .u8 0, .int .u8 0, .int .u8 0, .int .u8 0, .int .u8 0, .int .u8 0, .int .u8 0, .int .u8 0, .int .u8 0, .int .u8 0, .int .u8 0, .int .i64 0] 104)).setCells g2 0 (eC d (c : Int)) = q := ⟨_, rfl⟩
  have BZ : Blk (y2.alloc (.cells #[.int .u8 0, .int .u8 0, .int .u8 0, .int .u8 0, .int .u8 0, .int .u8 0, .int .u8 0, .int .u8 0, .int .u8 0, .int .u8 0, .int .u8 0, .int .u8 0, .int .u8 0, .int .u8 0, .int .u8 0, .int .u8 0, .int .u8 0, .int .u8 0, .int .u8 0, .int .u8 0, .int .u8 0, .int .u8 0, .int .u8 0, .int .u8 0, .int .u8 0, .int .u8 0, .int .u8 0, .int .u8 0, .int .u8 0, .int .u8 0, .int .u8 0, .int .u8 0, .int .i64 0] 104)) g2 #[.int .u8 0, .int .u8 0, .int .u8 0, .int .u8 0, .int .u8 0, .int .u8 0, .int .u8 0, .int .u8 0, .int .u8 0, .int .u8 0, .int .u8 0, .int .u8 0, .int .u8 0, .int .u8 0, .int .u8 0, .int .u8 0, .int .u8 0, .int .u8 0, .int .u8 0, .int .u8 0, .int .u8 0, .int .u8 0, .int .u8 0, .int .u8 0, .int .u8 0, .int .u8 0, .int .u8 0, .int .u8 0, .int .u8 0, .int .u8 0, .int .u8 0, .int .u8 0, .int .i64 0] 104 := by rw [<- hg2]; exact Blk.new y2 _ _
  have HTZ := uB (show World.there (y2.alloc (.cells #[.int .u8 0, .int .u8 0, .int .u8 0, .int .u8 0, .int .u8 0, .int .u8 0, .int .u8 0, .int .u8 0, .int .u8 0, .int .u8 0, .int .u8 0, .int .u8 0, .int .u8 0, .int .u8 0, .int .u8 0, .int .u8 0, .int .u8 0, .int .u8 0, .int .u8 0, .int .u8 0, .int .u8 0, .int .u8 0, .int .u8 0, .int .u8 0, .int .u8 0, .int .u8 0, .int .u8 0, .int .u8 0, .int .u8 0, .int .u8 0, .int .u8 0, .int .u8 0, .int .i64 0] 104)) g2 0 33 from zAN BZ 33 rfl)
  have B4 : Blk z g2 (eC d (c : Int)).toArray 104 := by
   rw [<- hz]
   have := zAr (eC d (c : Int)) [] [] BZ (#[.int .u8 0, .int .u8 0, .int .u8 0, .int .u8 0, .int .u8 0, .int .u8 0, .int .u8 0, .int .u8 0, .int .u8 0, .int .u8 0, .int .u8 0, .int .u8 0, .int .u8 0, .int .u8 0, .int .u8 0, .int .u8 0, .int .u8 0, .int .u8 0, .int .u8 0, .int .u8 0, .int .u8 0, .int .u8 0, .int .u8 0, .int .u8 0, .int .u8 0, .int .u8 0, .int .u8 0, .int .u8 0, .int .u8 0, .int .u8 0, .int .u8 0, .int .u8 0, .int .i64 0] : Array Value).toList (by rw [uA HEL]; rfl) (by simp)
   simpa using this
  have hbz : Below y1.heap.size y1 z := by rw [<- hz]; exact zAc (by have := hb2'.size; omega) _ _ (hb2'.alloc hb2'.size _)
  have w1 : (y2.alloc (.cells #[.int .u8 0, .int .u8 0, .int .u8 0, .int .u8 0, .int .u8 0, .int .u8 0, .int .u8 0, .int .u8 0, .int .u8 0, .int .u8 0, .int .u8 0, .int .u8 0, .int .u8 0, .int .u8 0, .int .u8 0, .int .u8 0, .int .u8 0, .int .u8 0, .int .u8 0, .int .u8 0, .int .u8 0, .int .u8 0, .int .u8 0, .int .u8 0, .int .u8 0, .int .u8 0, .int .u8 0, .int .u8 0, .int .u8 0, .int .u8 0, .int .u8 0, .int .u8 0, .int .i64 0] 104)).cell? ⟨g, 1, none⟩ = some (.string d) := (B3.alloc _).cell 1
  have w2 : (y2.alloc (.cells #[.int .u8 0, .int .u8 0, .int .u8 0, .int .u8 0, .int .u8 0, .int .u8 0, .int .u8 0, .int .u8 0, .int .u8 0, .int .u8 0, .int .u8 0, .int .u8 0, .int .u8 0, .int .u8 0, .int .u8 0, .int .u8 0, .int .u8 0, .int .u8 0, .int .u8 0, .int .u8 0, .int .u8 0, .int .u8 0, .int .u8 0, .int .u8 0, .int .u8 0, .int .u8 0, .int .u8 0, .int .u8 0, .int .u8 0, .int .u8 0, .int .u8 0, .int .u8 0, .int .i64 0] 104)).cell? ⟨g, 2, none⟩ = some (.int .i64 (c : Int)) := (B3.alloc _).cell 2
  have X3 := uB (And.intro B4 hbz)
  have HZ := uB hz
  clear hb2 hb2' hBl B3 BZ B4 hbz hz
  refine hK.out _ _ ⟨v1, v2⟩ (fun hS => ?_)
  clear hK K
  refine yK 5 (some 33) (.agg (eC d (c : Int)).toArray) rfl (zBh (by rfl) 104 (.tmp 30) (.tmp 32) rfl _ _ _ rfl rfl (uA HBU)) hS ?_
  refine wpAnyH_ready (rs := [6]) (by kernel_rfl) (by simp) ?_
  refine AllReadyH.cons rfl (fun K hK => ?_) AllReadyH.nil
  simp only [lD, lE, lF]
  go_simp
  refine hK.out _ _ ⟨w1, w2⟩ (fun hS => ?_)
  clear hK K
  refine wpAnyH_ready (rs := [7]) (by kernel_rfl) (by simp) ?_
  refine AllReadyH.cons rfl (fun K hK => ?_) AllReadyH.nil
  simp only [lD, lE, lF]
  rw [if_pos (by rfl)]
  refine wp_store_mid 104 (.tmp 5) (.tmp 33) rfl g2 0 (eC d (c : Int)).toArray (by rfl) rfl (by rw [List.size_toArray, uA HEL]; exact uA HTZ) (by rw [zAk, List.size_toArray, uA HEL]) (uA HE1) ?_
  rw [uA HZ]
  have hzb := (uA X2).2.2.below (uA X3).2 (uA X2).2.2.lt
  have z1 : z.cell? ⟨g, 1, none⟩ = some (.string d) := hzb.cell 1
  have z2 : z.cell? ⟨g, 2, none⟩ = some (.int .i64 (c : Int)) := hzb.cell 2
  refine hK.out _ _ ⟨z1, z2⟩ (fun hS => ?_)
  clear hK K
  refine wpAnyH_done (by kernel_rfl) ?_ _
  have z0 : z.cell? ⟨g, 0, none⟩ = some (.int .i64 (i : Int)) := hzb.cell 0
  have KZ := (zAn (uA HW).2.2.2.1 (uA X3).1).2.2.2
  have G3 := (uA X2).1.below (uA X3).2
  have HFI := uB (zBX (G3.below ((Below.refl _ z).drew)).im.mm d (uA HW).2.2.2.1 (i : Int) true (uA HLK))
  clear hS v1 v2 w1 w2 z1 z2 hzb G3
  go_wp2
  refine wp_region_held_drew (S := fun w' => w'.rangeAt g2 0 (kC d)) (by kernel_rfl) KZ ?_
  intro hS
  refine yL 0 (some 35) (.pointer (some ⟨xb, 0, none⟩)) rfl (fun w hSw => by go_simp) hS ?_
  refine yL 1 (some 36) (.pointer (some ⟨xb, 0, none⟩)) rfl (fun w hSw => by go_simp) hS ?_
  refine yL 2 (some 37) (.pointer (some ⟨xb, 2, none⟩)) rfl (fun w hSw => by go_simp) hS ?_
  refine yL 3 (some 38) (.pointer (some ⟨g2, 0, none⟩)) rfl (fun w hSw => by go_simp) hS ?_
  refine yK 4 (some 39) (.agg (kC d).toArray) rfl (yieldsIf_load_mid (by rfl) 99 (.tmp 38) rfl g2 0 rfl _ _ (fun w h => h) Tryz.underlying99 rfl (by rw [zBp, uA HKL])) hS ?_
  refine wpAnyH_ready (rs := [5]) (by kernel_rfl) (by simp) ?_
  refine AllReadyH.cons rfl (fun K hK => ?_) AllReadyH.nil
  simp only [lD, lE, lF]
  go_simp
  refine (uA HFI).mono ?_
  rintro e y5 ⟨rfl, hb5⟩
  have hb5' : Below z.heap.size z y5 := ((Below.refl _ z).drew).trans hb5
  have B5 : Blk y5 g2 (eC d (c : Int)).toArray 104 := (uA X3).1.below hb5' (uA X3).1.lt
  have K5 := (zAn (uA HW).2.2.2.1 B5).2.2.2
  have R5 := (zAn (uA HW).2.2.2.1 B5).2.1
  have hb15 : Below y1.heap.size y1 y5 := (uA X3).2.trans (hb5'.mono (uA X3).2.size)
  have G5 := (uA X2).1.below hb15
  have S5 := (uA X2).2.2.below hb15 (uA X2).2.2.lt
  have f0 : y5.cell? ⟨g, 0, none⟩ = some (.int .i64 (i : Int)) := S5.cell 0
  have hOw : Only (fun x => ¬ Xf Y xb eb bm x) w y5 := ((Only.of_below (P := fun x => ¬ Xf Y xb eb bm x) (uA HW).2.2.2.2.2.1).trans (uA X2).2.1 (fun x _ q r => q (by rcases r with r | r; exact .inl (.inl r); exact .inr r))).trans (Only.of_below (P := fun x => ¬ Xf Y xb eb bm x) hb15) (fun _ _ q => q)
  have X5 := uB (And.intro (G5.less (Z := Y) (fun x q => .inl q)) hOw)
  have HR5 := uB R5
  clear hb5 hb5' B5 R5 hb15 G5 S5 hOw
  refine hK.out _ _ K5 (fun hS => ?_)
  clear hK K
  refine yL 6 (some 34) (.tuple #[.int .i64 (i : Int), .bool true]) rfl (fun w hSw => by go_simp) hS ?_
  refine yL 7 (some 41) (.int .i64 (i : Int)) rfl (fun w hSw => by go_simp) hS ?_
  refine yL 8 (some 42) (.bool true) rfl (fun w hSw => by go_simp) hS ?_
  refine yL 9 (some 6) (.int .i64 (i : Int)) rfl (fun w hSw => by go_simp) hS ?_
  refine yL 10 (some 7) (.bool true) rfl (fun w hSw => by go_simp) hS ?_
  refine wpAnyH_done (by kernel_rfl) ?_ _
  clear hS K5 KZ z0
  have HIC := uB (zDx (uA X5).1 (uA HW).2.1 i (uA HW).2.2.1 (some (d, c)) (uA HW).2.2.2.2.1 (fun d' c'' q j' c3 hj' => by
   obtain ⟨rfl, rfl⟩ : d = d' /\ c = c'' := by simpa using q
   exact (uA HW).1.ok.one j' i d c3 c' hj' (uA HX).1) (uA HX).2)
  go_wp2_with (refine wpList_load_mid rfl 104 (.tmp 5) rfl g2 0 (by rfl) (enC (some (d, c))) _ (uA HR5) Tryz.underlying104 rfl (by rw [zAk]; exact congrArg some (uA HEL).symm) ?_)
  refine (uA HIC).mono ?_
  rintro e y6 ⟨rfl, S6, Mn6, k1, k2, k3, k4⟩
  have Y6 := uB (show IChg w0 w b jb pb xb eb bm Y a n S L A hn Mw (upd T i (some (d, c))) i y6 from ⟨S6, Mn6, k1, k2, k3, ((uA X5).2.mono (fun x _ q r => q (.inl r))).trans k4 (fun _ _ q => q)⟩)
  clear k1 k2 k3 k4 HIC f0
  go_wp2
  go_ret
  exact ⟨rfl, uA Y6⟩
 ·simp only [lD, lE, lF]
  go_simp
  obtain ⟨g2, hg2⟩ : ∃ q, y1.heap.size = q := ⟨_, rfl⟩
  obtain ⟨y2, hy2⟩ : ∃ q, y1.alloc (.cells #[.int .u8 0, .int .u8 0, .int .u8 0, .int .u8 0, .int .u8 0, .int .u8 0, .int .u8 0, .int .u8 0, .int .u8 0, .int .u8 0, .int .u8 0, .int .u8 0, .int .u8 0, .int .u8 0, .int .u8 0, .int .u8 0, .int .u8 0, .int .u8 0, .int .u8 0, .int .u8 0, .int .u8 0, .int .u8 0, .int .u8 0, .int .u8 0, .int .u8 0, .int .u8 0, .int .u8 0, .int .u8 0, .int .u8 0, .int .u8 0, .int .u8 0, .int .u8 0, .int .i64 0] 104) = q := ⟨_, rfl⟩
  have BZ : Blk y2 g2 #[.int .u8 0, .int .u8 0, .int .u8 0, .int .u8 0, .int .u8 0, .int .u8 0, .int .u8 0, .int .u8 0, .int .u8 0, .int .u8 0, .int .u8 0, .int .u8 0, .int .u8 0, .int .u8 0, .int .u8 0, .int .u8 0, .int .u8 0, .int .u8 0, .int .u8 0, .int .u8 0, .int .u8 0, .int .u8 0, .int .u8 0, .int .u8 0, .int .u8 0, .int .u8 0, .int .u8 0, .int .u8 0, .int .u8 0, .int .u8 0, .int .u8 0, .int .u8 0, .int .i64 0] 104 := by rw [<- hg2, <- hy2]; exact Blk.new y1 _ _
  have hBl := (uA X2).2.2.lt
  have B3 : Blk y2 g #[.int .i64 (i : Int), .string d, .int .i64 (c : Int)] 40 := by rw [<- hy2]; exact (uA X2).2.2.alloc _
  have hb2 : Below y1.heap.size y1 y2 := by rw [<- hy2]; exact (Below.refl _ _).alloc (Nat.le_refl _) _
  have v1 : y2.cell? ⟨g, 1, none⟩ = some (.string d) := B3.cell 1
  have v2 : y2.cell? ⟨g, 2, none⟩ = some (.int .i64 (c : Int)) := B3.cell 2
  have HY := uB (And.intro BZ (And.intro B3 hb2))
  rw [hg2, hy2]
  clear BZ hBl B3 hb2 hy2
  refine hK.out _ _ ⟨v1, v2⟩ (fun hS => ?_)
  clear hK K
  refine wpAnyH_ready (rs := [2]) (by kernel_rfl) (by simp) ?_
  refine AllReadyH.cons rfl (fun K hK => ?_) AllReadyH.nil
  simp only [lD, lE, lF]
  go_simp
  refine (uA HKO _).mono ?_
  rintro e y3 ⟨rfl, hb3⟩
  have hb3' : Below y2.heap.size y2 y3 := ((Below.refl _ y2).drew).trans hb3
  obtain ⟨BZ, B3, hb2⟩ := uA HY
  have BZ3 : Blk y3 g2 #[.int .u8 0, .int .u8 0, .int .u8 0, .int .u8 0, .int .u8 0, .int .u8 0, .int .u8 0, .int .u8 0, .int .u8 0, .int .u8 0, .int .u8 0, .int .u8 0, .int .u8 0, .int .u8 0, .int .u8 0, .int .u8 0, .int .u8 0, .int .u8 0, .int .u8 0, .int .u8 0, .int .u8 0, .int .u8 0, .int .u8 0, .int .u8 0, .int .u8 0, .int .u8 0, .int .u8 0, .int .u8 0, .int .u8 0, .int .u8 0, .int .u8 0, .int .u8 0, .int .i64 0] 104 := BZ.below hb3' BZ.lt
  have B33 : Blk y3 g #[.int .i64 (i : Int), .string d, .int .i64 (c : Int)] 40 := B3.below hb3' B3.lt
  obtain ⟨z, hz⟩ : ∃ q, y3.setCells g2 0 (eC d (c : Int)) = q := ⟨_, rfl⟩
  have HTZ := uB (show World.there y3 g2 0 33 from zAN BZ3 33 rfl)
  have B4 : Blk z g2 (eC d (c : Int)).toArray 104 := by
   rw [<- hz]
   have := zAr (eC d (c : Int)) [] [] BZ3 (#[.int .u8 0, .int .u8 0, .int .u8 0, .int .u8 0, .int .u8 0, .int .u8 0, .int .u8 0, .int .u8 0, .int .u8 0, .int .u8 0, .int .u8 0, .int .u8 0, .int .u8 0, .int .u8 0, .int .u8 0, .int .u8 0, .int .u8 0, .int .u8 0, .int .u8 0, .int .u8 0, .int .u8 0, .int .u8 0, .int .u8 0, .int .u8 0, .int .u8 0, .int .u8 0, .int .u8 0, .int .u8 0, .int .u8 0, .int .u8 0, .int .u8 0, .int .u8 0, .int .i64 0] : Array Value).toList (by rw [uA HEL]; rfl) (by simp)
   simpa using this
  have hbz : Below y1.heap.size y1 z := by rw [<- hz]; exact zAc (by omega) _ _ (hb2.trans (hb3'.mono hb2.size))
  have w1 : y3.cell? ⟨g, 1, none⟩ = some (.string d) := B33.cell 1
  have w2 : y3.cell? ⟨g, 2, none⟩ = some (.int .i64 (c : Int)) := B33.cell 2
  have X3 := uB (And.intro B4 hbz)
  have HZ := uB hz
  clear hb3 hb3' BZ B3 hb2 BZ3 B33 B4 hbz hz HY
  refine hK.out _ _ ⟨w1, w2⟩ (fun hS => ?_)
  clear hK K
  refine yK 5 (some 33) (.agg (eC d (c : Int)).toArray) rfl (zBh (by rfl) 104 (.tmp 30) (.tmp 32) rfl _ _ _ rfl rfl (uA HBU)) hS ?_
  refine wpAnyH_ready (rs := [7]) (by kernel_rfl) (by simp) ?_
  refine AllReadyH.cons rfl (fun K hK => ?_) AllReadyH.nil
  simp only [lD, lE, lF]
  rw [if_pos (by rfl)]
  refine wp_store_mid 104 (.tmp 5) (.tmp 33) rfl g2 0 (eC d (c : Int)).toArray (by rfl) rfl (by rw [List.size_toArray, uA HEL]; exact uA HTZ) (by rw [zAk, List.size_toArray, uA HEL]) (uA HE1) ?_
  rw [uA HZ]
  have hzb := (uA X2).2.2.below (uA X3).2 (uA X2).2.2.lt
  have z1 : z.cell? ⟨g, 1, none⟩ = some (.string d) := hzb.cell 1
  have z2 : z.cell? ⟨g, 2, none⟩ = some (.int .i64 (c : Int)) := hzb.cell 2
  refine hK.out _ _ ⟨z1, z2⟩ (fun hS => ?_)
  clear hK K
  refine wpAnyH_done (by kernel_rfl) ?_ _
  have z0 : z.cell? ⟨g, 0, none⟩ = some (.int .i64 (i : Int)) := hzb.cell 0
  have KZ := (zAn (uA HW).2.2.2.1 (uA X3).1).2.2.2
  have G3 := (uA X2).1.below (uA X3).2
  have HFI := uB (zBX (G3.below ((Below.refl _ z).drew)).im.mm d (uA HW).2.2.2.1 (i : Int) true (uA HLK))
  clear hS v1 v2 w1 w2 z1 z2 hzb G3
  go_wp2
  refine wp_region_held_drew (S := fun w' => w'.rangeAt g2 0 (kC d)) (by kernel_rfl) KZ ?_
  intro hS
  refine yL 0 (some 35) (.pointer (some ⟨xb, 0, none⟩)) rfl (fun w hSw => by go_simp) hS ?_
  refine yL 1 (some 36) (.pointer (some ⟨xb, 0, none⟩)) rfl (fun w hSw => by go_simp) hS ?_
  refine yL 2 (some 37) (.pointer (some ⟨xb, 2, none⟩)) rfl (fun w hSw => by go_simp) hS ?_
  refine yL 3 (some 38) (.pointer (some ⟨g2, 0, none⟩)) rfl (fun w hSw => by go_simp) hS ?_
  refine yK 4 (some 39) (.agg (kC d).toArray) rfl (yieldsIf_load_mid (by rfl) 99 (.tmp 38) rfl g2 0 rfl _ _ (fun w h => h) Tryz.underlying99 rfl (by rw [zBp, uA HKL])) hS ?_
  refine wpAnyH_ready (rs := [5]) (by kernel_rfl) (by simp) ?_
  refine AllReadyH.cons rfl (fun K hK => ?_) AllReadyH.nil
  simp only [lD, lE, lF]
  go_simp
  refine (uA HFI).mono ?_
  rintro e y5 ⟨rfl, hb5⟩
  have hb5' : Below z.heap.size z y5 := ((Below.refl _ z).drew).trans hb5
  have B5 : Blk y5 g2 (eC d (c : Int)).toArray 104 := (uA X3).1.below hb5' (uA X3).1.lt
  have K5 := (zAn (uA HW).2.2.2.1 B5).2.2.2
  have R5 := (zAn (uA HW).2.2.2.1 B5).2.1
  have hb15 : Below y1.heap.size y1 y5 := (uA X3).2.trans (hb5'.mono (uA X3).2.size)
  have G5 := (uA X2).1.below hb15
  have S5 := (uA X2).2.2.below hb15 (uA X2).2.2.lt
  have f0 : y5.cell? ⟨g, 0, none⟩ = some (.int .i64 (i : Int)) := S5.cell 0
  have hOw : Only (fun x => ¬ Xf Y xb eb bm x) w y5 := ((Only.of_below (P := fun x => ¬ Xf Y xb eb bm x) (uA HW).2.2.2.2.2.1).trans (uA X2).2.1 (fun x _ q r => q (by rcases r with r | r; exact .inl (.inl r); exact .inr r))).trans (Only.of_below (P := fun x => ¬ Xf Y xb eb bm x) hb15) (fun _ _ q => q)
  have X5 := uB (And.intro (G5.less (Z := Y) (fun x q => .inl q)) hOw)
  have HR5 := uB R5
  clear hb5 hb5' B5 R5 hb15 G5 S5 hOw
  refine hK.out _ _ K5 (fun hS => ?_)
  clear hK K
  refine yL 6 (some 34) (.tuple #[.int .i64 (i : Int), .bool true]) rfl (fun w hSw => by go_simp) hS ?_
  refine yL 7 (some 41) (.int .i64 (i : Int)) rfl (fun w hSw => by go_simp) hS ?_
  refine yL 8 (some 42) (.bool true) rfl (fun w hSw => by go_simp) hS ?_
  refine yL 9 (some 6) (.int .i64 (i : Int)) rfl (fun w hSw => by go_simp) hS ?_
  refine yL 10 (some 7) (.bool true) rfl (fun w hSw => by go_simp) hS ?_
  refine wpAnyH_done (by kernel_rfl) ?_ _
  clear hS K5 KZ z0
  have HIC := uB (zDx (uA X5).1 (uA HW).2.1 i (uA HW).2.2.1 (some (d, c)) (uA HW).2.2.2.2.1 (fun d' c'' q j' c3 hj' => by
   obtain ⟨rfl, rfl⟩ : d = d' /\ c = c'' := by simpa using q
   exact (uA HW).1.ok.one j' i d c3 c' hj' (uA HX).1) (uA HX).2)
  go_wp2_with (refine wpList_load_mid rfl 104 (.tmp 5) rfl g2 0 (by rfl) (enC (some (d, c))) _ (uA HR5) Tryz.underlying104 rfl (by rw [zAk]; exact congrArg some (uA HEL).symm) ?_)
  refine (uA HIC).mono ?_
  rintro e y6 ⟨rfl, S6, Mn6, k1, k2, k3, k4⟩
  have Y6 := uB (show IChg w0 w b jb pb xb eb bm Y a n S L A hn Mw (upd T i (some (d, c))) i y6 from ⟨S6, Mn6, k1, k2, k3, ((uA X5).2.mono (fun x _ q r => q (.inl r))).trans k4 (fun _ _ q => q)⟩)
  clear k1 k2 k3 k4 HIC f0
  go_wp2
  go_ret
  exact ⟨rfl, uA Y6⟩
theorem zJ1 {w0 w : World} {b jb pb xb eb bm : Nat} {Y : Nat -> Prop} {a n : Nat} {S : PS} {L : List ByteArray} {A : List (Nat × Nat)} {hn : Nat} {Mw Mn : List ByteArray} {T : Nat -> En} (h : IG w0 w b jb pb xb eb bm Y a n S L A hn Mw Mn T T) (ho : S.op = true) (i : Nat) (hi : i < n) (d : ByteArray) (hd : d.size = 32) (c : Nat) (hc1 : 1 <= c) (hc2 : c <= 65535) (hT : ∀ j c', T j ≠ some (d, c')) (hr : zAQ S ((a + i / 6 : Nat) : Int) = true) :
  Calls Tryz.prog 14 #[.pointer (some ⟨xb, 0, none⟩), .agg #[.int .i64 (i : Int), .string d, .int .i64 (c : Int)]] w fun e w' => e = .returned (.int .i64 0) /\ IChg w0 w b jb pb xb eb bm Y a n S L A hn Mw (upd T i (some (d, c))) i w' := by
 have hn96 := h.n2
 have hok : EnOk (some (d, c)) := fun d' c'' q => by
  obtain ⟨rfl, rfl⟩ : d = d' /\ c = c'' := by simpa using q
  exact ⟨hd, hc1, hc2⟩
 obtain ⟨g, hg⟩ : ∃ q, w.heap.size = q := ⟨_, rfl⟩
 obtain ⟨x1, hx1⟩ : ∃ q, w.alloc (.cells #[.int .i64 (i : Int), .string d, .int .i64 (c : Int)] 40) = q := ⟨_, rfl⟩
 have hb1 : Below w.heap.size w x1 := by rw [<- hx1]; exact (Below.refl _ w).alloc (Nat.le_refl _) _
 have B1 : Blk x1 g #[.int .i64 (i : Int), .string d, .int .i64 (c : Int)] 40 := by rw [<- hx1, <- hg]; exact Blk.new w _ _
 have G1 : IG w0 x1 b jb pb xb eb bm (fun x => Y x ∨ x = g) a n S L A hn Mw Mn T T := h.more hb1 (fun x hx => by
  rcases hx with q | q
  ·exact .inl q
  ·rw [q, <- hg]; exact .inr ⟨Nat.le_refl _, by rw [hg]; exact B1.lt⟩)
 have s0 : x1.cell? ⟨g, 0, none⟩ = some (.int .i64 (i : Int)) := B1.cell 0
 have s1 : x1.cell? ⟨g, 1, none⟩ = some (.string d) := B1.cell 1
 have s2 : x1.cell? ⟨g, 2, none⟩ = some (.int .i64 (c : Int)) := B1.cell 2
 have HHA := uB (zC5 (G1.below ((Below.refl _ x1).drew)).im.mm (i : Int))
 rw [decide_eq_true (show (0 : Int) <= (i : Int) by omega), decide_eq_true (show (i : Int) < (n : Int) by omega)] at HHA
 have HDG := uB (fun W => zB6 d W)
 rw [show ((d.size : Int) == 32) = true by rw [hd]; rfl] at HDG
 have HTI := uB (fun W => zCf (c : Int) W)
 rw [decide_eq_true (show (1 : Int) <= (c : Int) by omega), decide_eq_true (show (c : Int) <= 65535 by omega)] at HTI
 have HCH := uB ((G1.below ((Below.refl _ x1).drew)).changeable)
 rw [ho] at HCH
 have HKO := uB (fun W => zDC d hd W)
 have HBU := uB (zEN (kC d) (zBm d hd) (c : Int))
 have HEL := uB (zEX d hd (c : Int))
 have HE1 := uB (all_oneCell_toArray (zFm d (c : Int)))
 have HKL := uB (zBm d hd)
 have HLK := uB (fun W (hW : PM W bm n T) => hW.miss hd hT)
 have HW := uB (And.intro h (And.intro ho (And.intro hi (And.intro hd (And.intro hok (And.intro hb1 (And.intro B1 hg)))))))
 have HX := uB (And.intro hT hr)
 clear h ho hd hok hb1 B1 G1 hc1 hc2 hi hT hr
 go_enter Tryz.func14, Tryz.ntmps14
 go_wp2
 refine wp_region_held_drew (S := fun w' => w'.cell? ⟨g, 0, none⟩ = some (.int .i64 (i : Int))) (by kernel_rfl) s0 ?_
 intro hS
 refine yL 0 (some 8) (.pointer (some ⟨xb, 0, none⟩)) rfl (fun w hSw => by have q1 : _ = _ := hSw; go_simp) hS ?_
 refine yL 1 (some 9) (.pointer (some ⟨xb, 0, none⟩)) rfl (fun w hSw => by have q1 : _ = _ := hSw; go_simp) hS ?_
 refine yL 2 (some 10) (.pointer (some ⟨xb, 2, none⟩)) rfl (fun w hSw => by have q1 : _ = _ := hSw; go_simp) hS ?_
 refine yL 3 (some 11) (.pointer (some ⟨g, 0, none⟩)) rfl (fun w hSw => by have q1 : _ = _ := hSw; go_simp) hS ?_
 refine yL 4 (some 12) (.int .i64 (i : Int)) rfl (fun w hSw => by have q1 : _ = _ := hSw; go_simp) hS ?_
 refine wpAnyH_ready (rs := [5]) (by kernel_rfl) (by simp) ?_
 refine AllReadyH.cons rfl (fun K hK => ?_) AllReadyH.nil
 simp only [lD, lE, lF]
 go_simp
 refine (uA HHA).mono ?_
 rintro e w' ⟨rfl, hw'⟩
 subst w'
 refine hK.out _ _ s0 (fun hS => ?_)
 clear hK K
 refine yL 6 (some 14) (.bool false) rfl (fun w hSw => by have q1 : _ = _ := hSw; go_simp) hS ?_
 refine wpAnyH_done (by kernel_rfl) ?_ _
 clear hS
 go_wp2_with (first | (go_at_call 44; refine (uA HDG _).mono ?_; rintro e w' ⟨rfl, hw'⟩; subst w') | (go_at_call 48; refine (uA HTI _).mono ?_; rintro e w' ⟨rfl, hw'⟩; subst w'))
 refine (uA HCH).mono ?_
 rintro e y1 ⟨rfl, G2, hO2⟩
 have hO2' : Only (fun x => ¬ Xf (fun x => Y x ∨ x = g) xb eb bm x) x1 y1 := (Only.of_below (P := fun x => ¬ Xf (fun x => Y x ∨ x = g) xb eb bm x) ((Below.refl _ x1).drew)).trans hO2 (fun _ _ q => q)
 have B2 : Blk y1 g #[.int .i64 (i : Int), .string d, .int .i64 (c : Int)] 40 := (uA HW).2.2.2.2.2.2.1.only hO2' (fun q => q (.inl (.inr rfl)))
 have X2 := uB (And.intro G2 (And.intro hO2' B2))
 have t1 : y1.cell? ⟨g, 1, none⟩ = some (.string d) := B2.cell 1
 have t2 : y1.cell? ⟨g, 2, none⟩ = some (.int .i64 (c : Int)) := B2.cell 2
 clear G2 hO2 hO2' B2 HCH HDG HTI HHA s0 s1 s2
 go_wp2
 refine wp_region_held_drew (S := fun w' => w'.cell? ⟨g, 1, none⟩ = some (.string d) /\ w'.cell? ⟨g, 2, none⟩ = some (.int .i64 (c : Int))) (by kernel_rfl) ⟨t1, t2⟩ ?_
 intro hS
 refine yL 0 (some 28) (.pointer (some ⟨g, 1, none⟩)) rfl (fun w hSw => by obtain ⟨q1, q2⟩ := hSw; go_simp) hS ?_
 refine yL 1 (some 29) (.string d) rfl (fun w hSw => by obtain ⟨q1, q2⟩ := hSw; go_simp) hS ?_
 refine yL 3 (some 31) (.pointer (some ⟨g, 2, none⟩)) rfl (fun w hSw => by obtain ⟨q1, q2⟩ := hSw; go_simp) hS ?_
 refine yL 4 (some 32) (.int .i64 (c : Int)) rfl (fun w hSw => by obtain ⟨q1, q2⟩ := hSw; go_simp) hS ?_
 refine wpAnyH_ready (rs := [2, 6]) (by kernel_rfl) (by simp) ?_
 refine AllReadyH.cons rfl (fun K hK => ?_) (AllReadyH.cons rfl (fun K hK => ?_) AllReadyH.nil)
 ·simp only [lD, lE, lF]
  go_simp
  refine (uA HKO _).mono ?_
  rintro e y2 ⟨rfl, hb2⟩
  have hb2' : Below y1.heap.size y1 y2 := ((Below.refl _ y1).drew).trans hb2
  have hBl := (uA X2).2.2.lt
  have B3 : Blk y2 g #[.int .i64 (i : Int), .string d, .int .i64 (c : Int)] 40 := (uA X2).2.2.below hb2' hBl
  have v1 : y2.cell? ⟨g, 1, none⟩ = some (.string d) := B3.cell 1
  have v2 : y2.cell? ⟨g, 2, none⟩ = some (.int .i64 (c : Int)) := B3.cell 2
  obtain ⟨g2, hg2⟩ : ∃ q, y2.heap.size = q := ⟨_, rfl⟩
  obtain ⟨z, hz⟩ : ∃ q, (y2.alloc (.cells #[.int .u8 0, .int .u8 0, .int .u8 0, .int .u8 0, .int .u8 0, .int .u8 0, .int .u8 0, .int .u8 0, .int .u8 0, .int .u8 0, .int .u8 0, .int .u8 0, .int .u8 0, .int .u8 0, .int .u8 0, .int .u8 0, .int .u8 0, .int .u8 0, .int .u8 0, .int .u8 0, .int .u8 0, .int .u8 0, .int .u8 0, .int .u8 0, .int .u8 0, .int .u8 0, .int .u8 0, .int .u8 0, .int .u8 0, .int .u8 0, .int .u8 0, .int .u8 0, .int .i64 0] 104)).setCells g2 0 (eC d (c : Int)) = q := ⟨_, rfl⟩
  have BZ : Blk (y2.alloc (.cells #[.int .u8 0, .int .u8 0, .int .u8 0, .int .u8 0, .int .u8 0, .int .u8 0, .int .u8 0, .int .u8 0, .int .u8 0, .int .u8 0, .int .u8 0, .int .u8 0, .int .u8 0, .int .u8 0, .int .u8 0, .int .u8 0, .int .u8 0, .int .u8 0, .int .u8 0, .int .u8 0, .int .u8 0, .int .u8 0, .int .u8 0, .int .u8 0, .int .u8 0, .int .u8 0, .int .u8 0, .int .u8 0, .int .u8 0, .int .u8 0, .int .u8 0, .int .u8 0, .int .i64 0] 104)) g2 #[.int .u8 0, .int .u8 0, .int .u8 0, .int .u8 0, .int .u8 0, .int .u8 0, .int .u8 0, .int .u8 0, .int .u8 0, .int .u8 0, .int .u8 0, .int .u8 0, .int .u8 0, .int .u8 0, .int .u8 0, .int .u8 0, .int .u8 0, .int .u8 0, .int .u8 0, .int .u8 0, .int .u8 0, .int .u8 0, .int .u8 0, .int .u8 0, .int .u8 0, .int .u8 0, .int .u8 0, .int .u8 0, .int .u8 0, .int .u8 0, .int .u8 0, .int .u8 0, .int .i64 0] 104 := by rw [<- hg2]; exact Blk.new y2 _ _
  have HTZ := uB (show World.there (y2.alloc (.cells #[.int .u8 0, .int .u8 0, .int .u8 0, .int .u8 0, .int .u8 0, .int .u8 0, .int .u8 0, .int .u8 0, .int .u8 0, .int .u8 0, .int .u8 0, .int .u8 0, .int .u8 0, .int .u8 0, .int .u8 0, .int .u8 0, .int .u8 0, .int .u8 0, .int .u8 0, .int .u8 0, .int .u8 0, .int .u8 0, .int .u8 0, .int .u8 0, .int .u8 0, .int .u8 0, .int .u8 0, .int .u8 0, .int .u8 0, .int .u8 0, .int .u8 0, .int .u8 0, .int .i64 0] 104)) g2 0 33 from zAN BZ 33 rfl)
  have B4 : Blk z g2 (eC d (c : Int)).toArray 104 := by
   rw [<- hz]
   have := zAr (eC d (c : Int)) [] [] BZ (#[.int .u8 0, .int .u8 0, .int .u8 0, .int .u8 0, .int .u8 0, .int .u8 0, .int .u8 0, .int .u8 0, .int .u8 0, .int .u8 0, .int .u8 0, .int .u8 0, .int .u8 0, .int .u8 0, .int .u8 0, .int .u8 0, .int .u8 0, .int .u8 0, .int .u8 0, .int .u8 0, .int .u8 0, .int .u8 0, .int .u8 0, .int .u8 0, .int .u8 0, .int .u8 0, .int .u8 0, .int .u8 0, .int .u8 0, .int .u8 0, .int .u8 0, .int .u8 0, .int .i64 0] : Array Value).toList (by rw [uA HEL]; rfl) (by simp)
   simpa using this
  have hbz : Below y1.heap.size y1 z := by rw [<- hz]; exact zAc (by have := hb2'.size; omega) _ _ (hb2'.alloc hb2'.size _)
  have w1 : (y2.alloc (.cells #[.int .u8 0, .int .u8 0, .int .u8 0, .int .u8 0, .int .u8 0, .int .u8 0, .int .u8 0, .int .u8 0, .int .u8 0, .int .u8 0, .int .u8 0, .int .u8 0, .int .u8 0, .int .u8 0, .int .u8 0, .int .u8 0, .int .u8 0, .int .u8 0, .int .u8 0, .int .u8 0, .int .u8 0, .int .u8 0, .int .u8 0, .int .u8 0, .int .u8 0, .int .u8 0, .int .u8 0, .int .u8 0, .int .u8 0, .int .u8 0, .int .u8 0, .int .u8 0, .int .i64 0] 104)).cell? ⟨g, 1, none⟩ = some (.string d) := (B3.alloc _).cell 1
  have w2 : (y2.alloc (.cells #[.int .u8 0, .int .u8 0, .int .u8 0, .int .u8 0, .int .u8 0, .int .u8 0, .int .u8 0, .int .u8 0, .int .u8 0, .int .u8 0, .int .u8 0, .int .u8 0, .int .u8 0, .int .u8 0, .int .u8 0, .int .u8 0, .int .u8 0, .int .u8 0, .int .u8 0, .int .u8 0, .int .u8 0, .int .u8 0, .int .u8 0, .int .u8 0, .int .u8 0, .int .u8 0, .int .u8 0, .int .u8 0, .int .u8 0, .int .u8 0, .int .u8 0, .int .u8 0, .int .i64 0] 104)).cell? ⟨g, 2, none⟩ = some (.int .i64 (c : Int)) := (B3.alloc _).cell 2
  have X3 := uB (And.intro B4 hbz)
  have HZ := uB hz
  clear hb2 hb2' hBl B3 BZ B4 hbz hz
  refine hK.out _ _ ⟨v1, v2⟩ (fun hS => ?_)
  clear hK K
  refine yK 5 (some 33) (.agg (eC d (c : Int)).toArray) rfl (zBh (by rfl) 104 (.tmp 30) (.tmp 32) rfl _ _ _ rfl rfl (uA HBU)) hS ?_
  refine wpAnyH_ready (rs := [6]) (by kernel_rfl) (by simp) ?_
  refine AllReadyH.cons rfl (fun K hK => ?_) AllReadyH.nil
  simp only [lD, lE, lF]
  go_simp
  refine hK.out _ _ ⟨w1, w2⟩ (fun hS => ?_)
  clear hK K
  refine wpAnyH_ready (rs := [7]) (by kernel_rfl) (by simp) ?_
  refine AllReadyH.cons rfl (fun K hK => ?_) AllReadyH.nil
  simp only [lD, lE, lF]
  rw [if_pos (by rfl)]
  refine wp_store_mid 104 (.tmp 5) (.tmp 33) rfl g2 0 (eC d (c : Int)).toArray (by rfl) rfl (by rw [List.size_toArray, uA HEL]; exact uA HTZ) (by rw [zAk, List.size_toArray, uA HEL]) (uA HE1) ?_
  rw [uA HZ]
  have hzb := (uA X2).2.2.below (uA X3).2 (uA X2).2.2.lt
  have z1 : z.cell? ⟨g, 1, none⟩ = some (.string d) := hzb.cell 1
  have z2 : z.cell? ⟨g, 2, none⟩ = some (.int .i64 (c : Int)) := hzb.cell 2
  refine hK.out _ _ ⟨z1, z2⟩ (fun hS => ?_)
  clear hK K
  refine wpAnyH_done (by kernel_rfl) ?_ _
  have z0 : z.cell? ⟨g, 0, none⟩ = some (.int .i64 (i : Int)) := hzb.cell 0
  have KZ := (zAn (uA HW).2.2.2.1 (uA X3).1).2.2.2
  have G3 := (uA X2).1.below (uA X3).2
  have HFI := uB (zBX (G3.below ((Below.refl _ z).drew)).im.mm d (uA HW).2.2.2.1 0 false (uA HLK))
  clear hS v1 v2 w1 w2 z1 z2 hzb G3
  go_wp2
  refine wp_region_held_drew (S := fun w' => w'.rangeAt g2 0 (kC d)) (by kernel_rfl) KZ ?_
  intro hS
  refine yL 0 (some 35) (.pointer (some ⟨xb, 0, none⟩)) rfl (fun w hSw => by go_simp) hS ?_
  refine yL 1 (some 36) (.pointer (some ⟨xb, 0, none⟩)) rfl (fun w hSw => by go_simp) hS ?_
  refine yL 2 (some 37) (.pointer (some ⟨xb, 2, none⟩)) rfl (fun w hSw => by go_simp) hS ?_
  refine yL 3 (some 38) (.pointer (some ⟨g2, 0, none⟩)) rfl (fun w hSw => by go_simp) hS ?_
  refine yK 4 (some 39) (.agg (kC d).toArray) rfl (yieldsIf_load_mid (by rfl) 99 (.tmp 38) rfl g2 0 rfl _ _ (fun w h => h) Tryz.underlying99 rfl (by rw [zBp, uA HKL])) hS ?_
  refine wpAnyH_ready (rs := [5]) (by kernel_rfl) (by simp) ?_
  refine AllReadyH.cons rfl (fun K hK => ?_) AllReadyH.nil
  simp only [lD, lE, lF]
  go_simp
  refine (uA HFI).mono ?_
  rintro e y5 ⟨rfl, hb5⟩
  have hb5' : Below z.heap.size z y5 := ((Below.refl _ z).drew).trans hb5
  have B5 : Blk y5 g2 (eC d (c : Int)).toArray 104 := (uA X3).1.below hb5' (uA X3).1.lt
  have K5 := (zAn (uA HW).2.2.2.1 B5).2.2.2
  have R5 := (zAn (uA HW).2.2.2.1 B5).2.1
  have hb15 : Below y1.heap.size y1 y5 := (uA X3).2.trans (hb5'.mono (uA X3).2.size)
  have G5 := (uA X2).1.below hb15
  have S5 := (uA X2).2.2.below hb15 (uA X2).2.2.lt
  have f0 : y5.cell? ⟨g, 0, none⟩ = some (.int .i64 (i : Int)) := S5.cell 0
  have hOw : Only (fun x => ¬ Xf Y xb eb bm x) w y5 := ((Only.of_below (P := fun x => ¬ Xf Y xb eb bm x) (uA HW).2.2.2.2.2.1).trans (uA X2).2.1 (fun x _ q r => q (by rcases r with r | r; exact .inl (.inl r); exact .inr r))).trans (Only.of_below (P := fun x => ¬ Xf Y xb eb bm x) hb15) (fun _ _ q => q)
  have X5 := uB (And.intro (G5.less (Z := Y) (fun x q => .inl q)) hOw)
  have HR5 := uB R5
  clear hb5 hb5' B5 R5 hb15 G5 S5 hOw
  refine hK.out _ _ K5 (fun hS => ?_)
  clear hK K
  refine yL 6 (some 34) (.tuple #[.int .i64 0, .bool false]) rfl (fun w hSw => by go_simp) hS ?_
  refine yL 7 (some 41) (.int .i64 0) rfl (fun w hSw => by go_simp) hS ?_
  refine yL 8 (some 42) (.bool false) rfl (fun w hSw => by go_simp) hS ?_
  refine yL 9 (some 6) (.int .i64 0) rfl (fun w hSw => by go_simp) hS ?_
  refine yL 10 (some 7) (.bool false) rfl (fun w hSw => by go_simp) hS ?_
  refine wpAnyH_done (by kernel_rfl) ?_ _
  clear hS K5 KZ z0
  have HIC := uB (zDx (uA X5).1 (uA HW).2.1 i (uA HW).2.2.1 (some (d, c)) (uA HW).2.2.2.2.1 (fun d' c'' q j' c3 hj' => by
   obtain ⟨rfl, rfl⟩ : d = d' /\ c = c'' := by simpa using q
   exact absurd hj' ((uA HX).1 j' c3)) (uA HX).2)
  go_wp2_with (refine wpList_load_mid rfl 104 (.tmp 5) rfl g2 0 (by rfl) (enC (some (d, c))) _ (uA HR5) Tryz.underlying104 rfl (by rw [zAk]; exact congrArg some (uA HEL).symm) ?_)
  refine (uA HIC).mono ?_
  rintro e y6 ⟨rfl, S6, Mn6, k1, k2, k3, k4⟩
  have Y6 := uB (show IChg w0 w b jb pb xb eb bm Y a n S L A hn Mw (upd T i (some (d, c))) i y6 from ⟨S6, Mn6, k1, k2, k3, ((uA X5).2.mono (fun x _ q r => q (.inl r))).trans k4 (fun _ _ q => q)⟩)
  clear k1 k2 k3 k4 HIC f0
  go_wp2
  go_ret
  exact ⟨rfl, uA Y6⟩
 ·simp only [lD, lE, lF]
  go_simp
  obtain ⟨g2, hg2⟩ : ∃ q, y1.heap.size = q := ⟨_, rfl⟩
  obtain ⟨y2, hy2⟩ : ∃ q, y1.alloc (.cells #[.int .u8 0, .int .u8 0, .int .u8 0, .int .u8 0, .int .u8 0, .int .u8 0, .int .u8 0, .int .u8 0, .int .u8 0, .int .u8 0, .int .u8 0, .int .u8 0, .int .u8 0, .int .u8 0, .int .u8 0, .int .u8 0, .int .u8 0, .int .u8 0, .int .u8 0, .int .u8 0, .int .u8 0, .int .u8 0, .int .u8 0, .int .u8 0, .int .u8 0, .int .u8 0, .int .u8 0, .int .u8 0, .int .u8 0, .int .u8 0, .int .u8 0, .int .u8 0, .int .i64 0] 104) = q := ⟨_, rfl⟩
  have BZ : Blk y2 g2 #[.int .u8 0, .int .u8 0, .int .u8 0, .int .u8 0, .int .u8 0, .int .u8 0, .int .u8 0, .int .u8 0, .int .u8 0, .int .u8 0, .int .u8 0, .int .u8 0, .int .u8 0, .int .u8 0, .int .u8 0, .int .u8 0, .int .u8 0, .int .u8 0, .int .u8 0, .int .u8 0, .int .u8 0, .int .u8 0, .int .u8 0, .int .u8 0, .int .u8 0, .int .u8 0, .int .u8 0, .int .u8 0, .int .u8 0, .int .u8 0, .int .u8 0, .int .u8 0, .int .i64 0] 104 := by rw [<- hg2, <- hy2]; exact Blk.new y1 _ _
  have hBl := (uA X2).2.2.lt
  have B3 : Blk y2 g #[.int .i64 (i : Int), .string d, .int .i64 (c : Int)] 40 := by rw [<- hy2]; exact (uA X2).2.2.alloc _
  have hb2 : Below y1.heap.size y1 y2 := by rw [<- hy2]; exact (Below.refl _ _).alloc (Nat.le_refl _) _
  have v1 : y2.cell? ⟨g, 1, none⟩ = some (.string d) := B3.cell 1
  have v2 : y2.cell? ⟨g, 2, none⟩ = some (.int .i64 (c : Int)) := B3.cell 2
  have HY := uB (And.intro BZ (And.intro B3 hb2))
  rw [hg2, hy2]
  clear BZ hBl B3 hb2 hy2
  refine hK.out _ _ ⟨v1, v2⟩ (fun hS => ?_)
  clear hK K
  refine wpAnyH_ready (rs := [2]) (by kernel_rfl) (by simp) ?_
  refine AllReadyH.cons rfl (fun K hK => ?_) AllReadyH.nil
  simp only [lD, lE, lF]
  go_simp
  refine (uA HKO _).mono ?_
  rintro e y3 ⟨rfl, hb3⟩
  have hb3' : Below y2.heap.size y2 y3 := ((Below.refl _ y2).drew).trans hb3
  obtain ⟨BZ, B3, hb2⟩ := uA HY
  have BZ3 : Blk y3 g2 #[.int .u8 0, .int .u8 0, .int .u8 0, .int .u8 0, .int .u8 0, .int .u8 0, .int .u8 0, .int .u8 0, .int .u8 0, .int .u8 0, .int .u8 0, .int .u8 0, .int .u8 0, .int .u8 0, .int .u8 0, .int .u8 0, .int .u8 0, .int .u8 0, .int .u8 0, .int .u8 0, .int .u8 0, .int .u8 0, .int .u8 0, .int .u8 0, .int .u8 0, .int .u8 0, .int .u8 0, .int .u8 0, .int .u8 0, .int .u8 0, .int .u8 0, .int .u8 0, .int .i64 0] 104 := BZ.below hb3' BZ.lt
  have B33 : Blk y3 g #[.int .i64 (i : Int), .string d, .int .i64 (c : Int)] 40 := B3.below hb3' B3.lt
  obtain ⟨z, hz⟩ : ∃ q, y3.setCells g2 0 (eC d (c : Int)) = q := ⟨_, rfl⟩
  have HTZ := uB (show World.there y3 g2 0 33 from zAN BZ3 33 rfl)
  have B4 : Blk z g2 (eC d (c : Int)).toArray 104 := by
   rw [<- hz]
   have := zAr (eC d (c : Int)) [] [] BZ3 (#[.int .u8 0, .int .u8 0, .int .u8 0, .int .u8 0, .int .u8 0, .int .u8 0, .int .u8 0, .int .u8 0, .int .u8 0, .int .u8 0, .int .u8 0, .int .u8 0, .int .u8 0, .int .u8 0, .int .u8 0, .int .u8 0, .int .u8 0, .int .u8 0, .int .u8 0, .int .u8 0, .int .u8 0, .int .u8 0, .int .u8 0, .int .u8 0, .int .u8 0, .int .u8 0, .int .u8 0, .int .u8 0, .int .u8 0, .int .u8 0, .int .u8 0, .int .u8 0, .int .i64 0] : Array Value).toList (by rw [uA HEL]; rfl) (by simp)
   simpa using this
  have hbz : Below y1.heap.size y1 z := by rw [<- hz]; exact zAc (by omega) _ _ (hb2.trans (hb3'.mono hb2.size))
  have w1 : y3.cell? ⟨g, 1, none⟩ = some (.string d) := B33.cell 1
  have w2 : y3.cell? ⟨g, 2, none⟩ = some (.int .i64 (c : Int)) := B33.cell 2
  have X3 := uB (And.intro B4 hbz)
  have HZ := uB hz
  clear hb3 hb3' BZ B3 hb2 BZ3 B33 B4 hbz hz HY
  refine hK.out _ _ ⟨w1, w2⟩ (fun hS => ?_)
  clear hK K
  refine yK 5 (some 33) (.agg (eC d (c : Int)).toArray) rfl (zBh (by rfl) 104 (.tmp 30) (.tmp 32) rfl _ _ _ rfl rfl (uA HBU)) hS ?_
  refine wpAnyH_ready (rs := [7]) (by kernel_rfl) (by simp) ?_
  refine AllReadyH.cons rfl (fun K hK => ?_) AllReadyH.nil
  simp only [lD, lE, lF]
  rw [if_pos (by rfl)]
  refine wp_store_mid 104 (.tmp 5) (.tmp 33) rfl g2 0 (eC d (c : Int)).toArray (by rfl) rfl (by rw [List.size_toArray, uA HEL]; exact uA HTZ) (by rw [zAk, List.size_toArray, uA HEL]) (uA HE1) ?_
  rw [uA HZ]
  have hzb := (uA X2).2.2.below (uA X3).2 (uA X2).2.2.lt
  have z1 : z.cell? ⟨g, 1, none⟩ = some (.string d) := hzb.cell 1
  have z2 : z.cell? ⟨g, 2, none⟩ = some (.int .i64 (c : Int)) := hzb.cell 2
  refine hK.out _ _ ⟨z1, z2⟩ (fun hS => ?_)
  clear hK K
  refine wpAnyH_done (by kernel_rfl) ?_ _
  have z0 : z.cell? ⟨g, 0, none⟩ = some (.int .i64 (i : Int)) := hzb.cell 0
  have KZ := (zAn (uA HW).2.2.2.1 (uA X3).1).2.2.2
  have G3 := (uA X2).1.below (uA X3).2
  have HFI := uB (zBX (G3.below ((Below.refl _ z).drew)).im.mm d (uA HW).2.2.2.1 0 false (uA HLK))
  clear hS v1 v2 w1 w2 z1 z2 hzb G3
  go_wp2
  refine wp_region_held_drew (S := fun w' => w'.rangeAt g2 0 (kC d)) (by kernel_rfl) KZ ?_
  intro hS
  refine yL 0 (some 35) (.pointer (some ⟨xb, 0, none⟩)) rfl (fun w hSw => by go_simp) hS ?_
  refine yL 1 (some 36) (.pointer (some ⟨xb, 0, none⟩)) rfl (fun w hSw => by go_simp) hS ?_
  refine yL 2 (some 37) (.pointer (some ⟨xb, 2, none⟩)) rfl (fun w hSw => by go_simp) hS ?_
  refine yL 3 (some 38) (.pointer (some ⟨g2, 0, none⟩)) rfl (fun w hSw => by go_simp) hS ?_
  refine yK 4 (some 39) (.agg (kC d).toArray) rfl (yieldsIf_load_mid (by rfl) 99 (.tmp 38) rfl g2 0 rfl _ _ (fun w h => h) Tryz.underlying99 rfl (by rw [zBp, uA HKL])) hS ?_
  refine wpAnyH_ready (rs := [5]) (by kernel_rfl) (by simp) ?_
  refine AllReadyH.cons rfl (fun K hK => ?_) AllReadyH.nil
  simp only [lD, lE, lF]
  go_simp
  refine (uA HFI).mono ?_
  rintro e y5 ⟨rfl, hb5⟩
  have hb5' : Below z.heap.size z y5 := ((Below.refl _ z).drew).trans hb5
  have B5 : Blk y5 g2 (eC d (c : Int)).toArray 104 := (uA X3).1.below hb5' (uA X3).1.lt
  have K5 := (zAn (uA HW).2.2.2.1 B5).2.2.2
  have R5 := (zAn (uA HW).2.2.2.1 B5).2.1
  have hb15 : Below y1.heap.size y1 y5 := (uA X3).2.trans (hb5'.mono (uA X3).2.size)
  have G5 := (uA X2).1.below hb15
  have S5 := (uA X2).2.2.below hb15 (uA X2).2.2.lt
  have f0 : y5.cell? ⟨g, 0, none⟩ = some (.int .i64 (i : Int)) := S5.cell 0
  have hOw : Only (fun x => ¬ Xf Y xb eb bm x) w y5 := ((Only.of_below (P := fun x => ¬ Xf Y xb eb bm x) (uA HW).2.2.2.2.2.1).trans (uA X2).2.1 (fun x _ q r => q (by rcases r with r | r; exact .inl (.inl r); exact .inr r))).trans (Only.of_below (P := fun x => ¬ Xf Y xb eb bm x) hb15) (fun _ _ q => q)
  have X5 := uB (And.intro (G5.less (Z := Y) (fun x q => .inl q)) hOw)
  have HR5 := uB R5
  clear hb5 hb5' B5 R5 hb15 G5 S5 hOw
  refine hK.out _ _ K5 (fun hS => ?_)
  clear hK K
  refine yL 6 (some 34) (.tuple #[.int .i64 0, .bool false]) rfl (fun w hSw => by go_simp) hS ?_
  refine yL 7 (some 41) (.int .i64 0) rfl (fun w hSw => by go_simp) hS ?_
  refine yL 8 (some 42) (.bool false) rfl (fun w hSw => by go_simp) hS ?_
  refine yL 9 (some 6) (.int .i64 0) rfl (fun w hSw => by go_simp) hS ?_
  refine yL 10 (some 7) (.bool false) rfl (fun w hSw => by go_simp) hS ?_
  refine wpAnyH_done (by kernel_rfl) ?_ _
  clear hS K5 KZ z0
  have HIC := uB (zDx (uA X5).1 (uA HW).2.1 i (uA HW).2.2.1 (some (d, c)) (uA HW).2.2.2.2.1 (fun d' c'' q j' c3 hj' => by
   obtain ⟨rfl, rfl⟩ : d = d' /\ c = c'' := by simpa using q
   exact absurd hj' ((uA HX).1 j' c3)) (uA HX).2)
  go_wp2_with (refine wpList_load_mid rfl 104 (.tmp 5) rfl g2 0 (by rfl) (enC (some (d, c))) _ (uA HR5) Tryz.underlying104 rfl (by rw [zAk]; exact congrArg some (uA HEL).symm) ?_)
  refine (uA HIC).mono ?_
  rintro e y6 ⟨rfl, S6, Mn6, k1, k2, k3, k4⟩
  have Y6 := uB (show IChg w0 w b jb pb xb eb bm Y a n S L A hn Mw (upd T i (some (d, c))) i y6 from ⟨S6, Mn6, k1, k2, k3, ((uA X5).2.mono (fun x _ q r => q (.inl r))).trans k4 (fun _ _ q => q)⟩)
  clear k1 k2 k3 k4 HIC f0
  go_wp2
  go_ret
  exact ⟨rfl, uA Y6⟩
end
end Go.Proofs.YtdpnbemagiekoaaGreatDoor
