import Derived.Test.YtpcmifmgkccfnaaGreatDoorMv35
import Derived.Test.YtpcmifmgkccfnaaGreatDoorMv34
namespace Go.Proofs.YtpcmifmgkccfnaaGreatDoor
open Go.RowKit Go.Maps Go.Sort Go.Shelf
set_option maxRecDepth 100000
def okA (at_ cap : Int) : Prop := 0 ≤ cap ∧ cap ≤ 1024 ∧ 0 ≤ at_ ∧ at_ ≤ 120
theorem psize_rest {w0 w : World} {b jb pb : Nat} {X : Nat → Prop} {L : List ByteArray} {A : List (Nat × Nat)} {nx kp : Nat} (K : PK w0 w b jb pb (restP L A nx kp) X) (hL : L.length = 128) : Calls Tryz.prog 31 #[.pointer (some ⟨pb, 0, none⟩)] w fun e w' => e = .returned (.int .i64 128) ∧ w' = w := by
  obtain ⟨bw, bv, ov, Ki⟩ := K
  have := Ki.size
  rw [show (((restP L A nx kp).s.last.length : Nat) : Int) = 128 from by show ((L.length : Nat) : Int) = 128; rw [hL]; rfl] at this
  exact this
set_option maxHeartbeats 2000000 in
theorem topen_arg {w0 w : World} {b jb pb : Nat} {X : Nat → Prop} {L : List ByteArray} {A : List (Nat × Nat)} {nx kp : Nat} (K : PK w0 w b jb pb (restP L A nx kp) X) (hL : L.length = 128) (at_ cap : Int) (hbad : ¬ okA at_ cap) :
    Calls Tryz.prog 10 #[.pointer (some ⟨pb, 0, none⟩), .int .i64 at_, .int .i64 cap] w fun e w' => e = .returned (.tuple #[.pointer none, .int .i64 1]) ∧ w' = w := by
  have HCN := hide (fun W => isCap_any cap W)
  have HSZ := hide (psize_rest K hL)
  unfold okA at hbad
  clear K hL
  by_cases hc : 0 ≤ cap ∧ cap ≤ 1024
  · rw [decide_eq_true hc.1, decide_eq_true hc.2] at HCN
    by_cases h0 : at_ < 0
    · have ha0 : decide (at_ < 0) = true := decide_eq_true h0
      clear hbad hc
      go_enter Tryz.func10, Tryz.ntmps10
      go_wp2_with (first | (go_at_call 30; refine (unhide HCN _).mono ?_; rintro e w' ⟨rfl, hw'⟩; subst w') | (go_at_call 31; refine (unhide HSZ).mono ?_; rintro e w' ⟨rfl, hw'⟩; subst w'))
      go_ret2
      exact ⟨rfl, rfl⟩
    · have ha0 : decide (at_ < 0) = false := decide_eq_false h0
      have ha1 : decide ((120 : Int) < at_) = true := decide_eq_true (by omega)
      clear hbad hc
      go_enter Tryz.func10, Tryz.ntmps10
      go_wp2_with (first | (go_at_call 30; refine (unhide HCN _).mono ?_; rintro e w' ⟨rfl, hw'⟩; subst w') | (go_at_call 31; refine (unhide HSZ).mono ?_; rintro e w' ⟨rfl, hw'⟩; subst w'))
      go_ret2
      exact ⟨rfl, rfl⟩
  · have hcf : (decide (0 ≤ cap) && decide (cap ≤ 1024)) = false := by
      by_cases h : 0 ≤ cap
      · rw [decide_eq_true h, decide_eq_false (show ¬ cap ≤ 1024 by omega)]; rfl
      · rw [decide_eq_false h]; rfl
    rw [hcf] at HCN
    clear hbad hc hcf
    go_enter Tryz.func10, Tryz.ntmps10
    go_wp2_with (first | (go_at_call 30; refine (unhide HCN _).mono ?_; rintro e w' ⟨rfl, hw'⟩; subst w') | (go_at_call 31; refine (unhide HSZ).mono ?_; rintro e w' ⟨rfl, hw'⟩; subst w'))
    go_ret2
    exact ⟨rfl, rfl⟩

set_option maxHeartbeats 4000000 in
theorem topen_bad {w0 w : World} {b jb pb : Nat} {X : Nat → Prop} {L : List ByteArray} {A : List (Nat × Nat)} {nx kp : Nat} (K : PK w0 w b jb pb (restP L A nx kp) X) (hg : ETy w0) (hL : L.length = 128) (a cap : Nat) (ha : a ≤ 120) (hcap : cap ≤ 1024) (hN : NoT (L.getD a ByteArray.empty)) :
    Calls Tryz.prog 10 #[.pointer (some ⟨pb, 0, none⟩), .int .i64 (a : Int), .int .i64 (cap : Int)] w fun e w' => e = .returned (.tuple #[.pointer none, .int .i64 115]) ∧ Only (fun x => ¬ X x) w w' ∧ Below w0.heap.size w0 w' := by
  obtain ⟨tb, htb⟩ : ∃ xx, w.heap.size = xx := ⟨_, rfl⟩
  have HCN := hide (fun W => isCap_any (cap : Int) W)
  rw [decide_eq_true (show (0 : Int) ≤ (cap : Int) by omega), decide_eq_true (show (cap : Int) ≤ 1024 by omega)] at HCN
  have HSZ := hide (psize_rest K hL)
  have ha0 : decide ((a : Int) < 0) = false := decide_eq_false (by omega)
  have ha1 : decide ((120 : Int) < (a : Int)) = false := decide_eq_false (by omega)
  obtain ⟨x1, hx1⟩ : ∃ xx, w.alloc (.cells (Tbv pb a cap) 85) = xx := ⟨_, rfl⟩
  have hb1 : Below w.heap.size w x1 := by rw [← hx1]; exact (Below.refl _ w).alloc (Nat.le_refl _) _
  have B1 : Blk x1 tb (Tbv pb a cap) 85 := by rw [← hx1, ← htb]; exact Blk.new w _ _
  have K1 := K.more (Y := fun x => X x ∨ x = tb) hb1 (fun x q => q.imp_right (fun e => by rw [e]; exact ⟨by omega, B1.lt⟩))
  have HRD := hide (tRead_bad K1 B1 (.inr rfl) hg hL ha hN)
  have HX := hide (show Only (fun x => ¬ X x) w x1 from Only.of_below hb1)
  unfold Tbv at hx1
  clear K hb1 B1 K1 hg hL hN ha hcap
  go_enter Tryz.func10, Tryz.ntmps10
  go_wp2_with (first | (go_at_call 30; refine (unhide HCN _).mono ?_; rintro e w' ⟨rfl, hw'⟩; subst w') | (go_at_call 31; refine (unhide HSZ).mono ?_; rintro e w' ⟨rfl, hw'⟩; subst w'))
  clear hx1
  refine (unhide HRD).mono ?_
  rintro e x5 ⟨rfl, hO5, hB5⟩
  obtain ⟨h7, hh7⟩ : ∃ xx, x5.heap.size = xx := ⟨_, rfl⟩
  obtain ⟨x6, hx6⟩ : ∃ xx, x5.alloc (.cells Tryz.zeroCells90 90) = xx := ⟨_, rfl⟩
  have BZ6 : Blk x6 h7 Tryz.zeroCells90 90 := by rw [← hx6, ← hh7]; exact Blk.new x5 _ _
  have hzz : (Tryz.zeroCells90).size = 160 := by rw [← lC_zero]; simp [lC_len]
  have TH6 := hide (blk_there BZ6 (Tryz.zeroCells90).size rfl)
  have hb6 : Below x5.heap.size x5 x6 := by rw [← hx6]; exact (Below.refl _ x5).alloc (Nat.le_refl _) _
  have hb7 : Below x5.heap.size x5 (x6.setCells h7 0 (Tryz.zeroCells90).toList) := below_setCells (by omega) _ 0 hb6
  have HF := hide (show Only (fun x => ¬ X x) w (x6.setCells h7 0 (Tryz.zeroCells90).toList) from ((unhide HX).trans (hO5.mono (fun x _ q r => q (.inl r))) (fun _ _ q => q)).trans (Only.of_below (P := fun x => ¬ X x) hb7) (fun _ _ q => q))
  have HFB := hide (show Below w0.heap.size w0 (x6.setCells h7 0 (Tryz.zeroCells90).toList) from hB5.trans (hb7.mono hB5.size))
  have HZS := hide hzz
  have HZO := hide (show (Tryz.zeroCells90).all (·.oneCell') = true from by rw [← lC_zero]; exact lC_one _)
  obtain ⟨x8, hx8⟩ : ∃ Z, x6.setCells h7 0 (Tryz.zeroCells90).toList = Z := ⟨_, rfl⟩
  rw [hx8] at HF HFB
  have HX8 := hide hx8
  clear BZ6 hzz hb6 hb7 hO5 hB5 HRD HX hx8
  go_wp2_with (refine wpList_store_mid rfl 90 (.tmp 9) (.tmp 37) rfl h7 0 Tryz.zeroCells90 rfl rfl (unhide TH6) (by rw [sizeRol, unhide HZS]) (unhide HZO) ?_; rw [unhide HX8])
  go_ret2
  exact ⟨rfl, unhide HF, unhide HFB⟩
end Go.Proofs.YtpcmifmgkccfnaaGreatDoor

namespace Go.Proofs.YtpcmifmgkccfnaaGreatDoor
open Go.RowKit Go.Maps Go.Sort Go.Shelf
set_option maxRecDepth 100000
set_option maxHeartbeats 2000000 in
theorem rtopen_arg {w : World} {base b jb qb : Nat} {v : RV} {L : List ByteArray} {A : List (Nat × Nat)} (h : Rk w base b v (rs L A)) (hL : L.length = 128) (hq : Blk w qb #[.pointer (some ⟨b, 0, none⟩), .pointer (some ⟨jb, 0, none⟩), .int .i64 0, .slice none 0 0, .slice none 0 0, .bool false, .bool false, .int .i64 0, .int .i64 0] 81) (at_ cap : Int) (hbad : ¬ okA at_ cap) :
    Calls Tryz.prog 11 #[.pointer (some ⟨qb, 0, none⟩), .int .i64 at_, .int .i64 cap] w fun e w' => e = .returned (.tuple #[.pointer none, .int .i64 1]) ∧ Only (fun x => x = qb) w w' := by
  have HSZ := hide (rpsize0 h hL hq)
  unfold okA at hbad
  clear h hL hq
  by_cases h1 : cap < 0
  · have d1 : decide (cap < 0) = true := decide_eq_true h1
    clear hbad
    go_enter Tryz.func11, Tryz.ntmps11
    go_wp2_with (go_at_call 34; refine (unhide HSZ).mono ?_; rintro e w' ⟨rfl, hw'⟩; subst w')
    go_ret2
    exact ⟨rfl, Only.refl _ _⟩
  · have d1 : decide (cap < 0) = false := decide_eq_false h1
    by_cases h2 : (1024 : Int) < cap
    · have d2 : decide ((1024 : Int) < cap) = true := decide_eq_true h2
      clear hbad
      go_enter Tryz.func11, Tryz.ntmps11
      go_wp2_with (go_at_call 34; refine (unhide HSZ).mono ?_; rintro e w' ⟨rfl, hw'⟩; subst w')
      go_ret2
      exact ⟨rfl, Only.refl _ _⟩
    · have d2 : decide ((1024 : Int) < cap) = false := decide_eq_false h2
      by_cases h3 : at_ < 0
      · have d3 : decide (at_ < 0) = true := decide_eq_true h3
        clear hbad
        go_enter Tryz.func11, Tryz.ntmps11
        go_wp2_with (go_at_call 34; refine (unhide HSZ).mono ?_; rintro e w' ⟨rfl, hw'⟩; subst w')
        go_ret2
        exact ⟨rfl, Only.refl _ _⟩
      · have d3 : decide (at_ < 0) = false := decide_eq_false h3
        have d4 : decide ((120 : Int) < at_) = true := decide_eq_true (by omega)
        clear hbad
        go_enter Tryz.func11, Tryz.ntmps11
        go_wp2_with (go_at_call 34; refine (unhide HSZ).mono ?_; rintro e w' ⟨rfl, hw'⟩; subst w')
        go_ret2
        exact ⟨rfl, Only.refl _ _⟩

set_option maxHeartbeats 2000000 in
theorem rtopen_bad {w : World} {base b jb qb : Nat} {v : RV} {L : List ByteArray} {A : List (Nat × Nat)} (h : Rk w base b v (rs L A)) (hC : Coh (rs L A)) (hL : L.length = 128) (hq : Blk w qb #[.pointer (some ⟨b, 0, none⟩), .pointer (some ⟨jb, 0, none⟩), .int .i64 0, .slice none 0 0, .slice none 0 0, .bool false, .bool false, .int .i64 0, .int .i64 0] 81) (a cap : Nat) (ha : a ≤ 120) (hcap : cap ≤ 1024) (hN : NoT (L.getD a ByteArray.empty)) :
    Calls Tryz.prog 11 #[.pointer (some ⟨qb, 0, none⟩), .int .i64 (a : Int), .int .i64 (cap : Int)] w fun e w' => e = .returned (.tuple #[.pointer none, .int .i64 115]) ∧ Only (fun x => x = qb) w w' := by
  have HSZ := hide (rpsize0 h hL hq)
  have d1 : decide ((cap : Int) < 0) = false := decide_eq_false (by omega)
  have d2 : decide ((1024 : Int) < (cap : Int)) = false := decide_eq_false (by omega)
  have d3 : decide ((a : Int) < 0) = false := decide_eq_false (by omega)
  have d4 : decide ((120 : Int) < (a : Int)) = false := decide_eq_false (by omega)
  obtain ⟨tb, htb⟩ : ∃ xx, w.heap.size = xx := ⟨_, rfl⟩
  obtain ⟨x1, hx1⟩ : ∃ xx, w.alloc (.cells #[.pointer (some ⟨qb, 0, none⟩), .int .i64 (a : Int), .int .i64 (cap : Int)] 95) = xx := ⟨_, rfl⟩
  have hb1 : Below w.heap.size w x1 := by rw [← hx1]; exact (Below.refl _ w).alloc (Nat.le_refl _) _
  have B1 : Blk x1 tb #[.pointer (some ⟨qb, 0, none⟩), .int .i64 (a : Int), .int .i64 (cap : Int)] 95 := by rw [← hx1, ← htb]; exact Blk.new w _ _
  have HAL := hide (rtall_bad (rtread_bad (h.below hb1) hC hL (hq.below hb1 hq.lt) a ha (cap : Int) B1 (by have := hq.lt; omega) hN))
  have HO := hide (show Only (fun x => x = qb) w x1 from Only.of_below hb1)
  clear h hC hL hq hb1 B1 hN ha hcap
  go_enter Tryz.func11, Tryz.ntmps11
  go_wp2_with (go_at_call 34; refine (unhide HSZ).mono ?_; rintro e w' ⟨rfl, hw'⟩; subst w')
  clear hx1
  refine (unhide HAL).mono ?_
  rintro e x2 ⟨rfl, hO2⟩
  have HF := hide ((unhide HO).trans hO2 (fun _ _ q => q))
  clear hO2 HAL HO
  go_wp2
  go_ret2
  exact ⟨rfl, unhide HF⟩
end Go.Proofs.YtpcmifmgkccfnaaGreatDoor

namespace Go.Proofs.YtpcmifmgkccfnaaGreatDoor
open Go.RowKit Go.Maps Go.Sort Go.Shelf
set_option maxRecDepth 100000
set_option maxRecDepth 100000 in
set_option maxHeartbeats 2000000 in
theorem topen_ok {w0 w : World} {b jb pb : Nat} {X : Nat → Prop} {a cap : Nat} {S : PS} {L : List ByteArray} {A : List (Nat × Nat)} {hn : Nat} {Mw Mn : List ByteArray} {R : Nat → Rc} (K : PK w0 w b jb pb S X) (hg : ETy w0) (hs : Seen S L A hn Mw Mn) (hm : TS Mn a R) (hk : Kin a S.tx) (h19 : 19 ≤ a) (h128 : a + 8 ≤ 128) (hcap : cap ≤ 1024) (hq : qs R 8 ≤ cap) :
    Calls Tryz.prog 10 #[.pointer (some ⟨pb, 0, none⟩), .int .i64 (a : Int), .int .i64 (cap : Int)] w fun e w' => ∃ tb, e = .returned (.tuple #[.pointer (some ⟨tb, 0, none⟩), .int .i64 0]) ∧ w.heap.size ≤ tb ∧ ∃ S', TG w0 w' b jb pb tb (fun x => X x ∨ x = tb) a cap S' L A hn Mw Mn R ∧ S'.op = S.op ∧ Tk S' S ∧ Only (fun x => ¬ X x) w w' := by
  obtain ⟨tb, htb⟩ : ∃ xx, w.heap.size = xx := ⟨_, rfl⟩
  have HCN := hide (fun W => isCap_any (cap : Int) W)
  rw [decide_eq_true (show (0 : Int) ≤ (cap : Int) by omega), decide_eq_true (show (cap : Int) ≤ 1024 by omega)] at HCN
  have HSZ := hide (show Calls Tryz.prog 31 #[.pointer (some ⟨pb, 0, none⟩)] w fun e w' => e = .returned (.int .i64 128) ∧ w' = w from by
    obtain ⟨bw, bv, ov, Ki⟩ := K
    have := Ki.size
    rw [hs.rst.s, show ((rs L A).last.length : Int) = 128 from by show ((L.length : Nat) : Int) = 128; rw [hs.len]; rfl] at this
    exact this)
  have ha0 : decide ((a : Int) < 0) = false := decide_eq_false (by omega)
  have ha1 : decide ((120 : Int) < (a : Int)) = false := decide_eq_false (by omega)
  obtain ⟨x1, hx1⟩ : ∃ xx, w.alloc (.cells (Tbv pb a cap) 85) = xx := ⟨_, rfl⟩
  have hb1 : Below w.heap.size w x1 := by rw [← hx1]; exact (Below.refl _ w).alloc (Nat.le_refl _) _
  have B1 : Blk x1 tb (Tbv pb a cap) 85 := by rw [← hx1, ← htb]; exact Blk.new w _ _
  have G1 : TG w0 x1 b jb pb tb (fun x => X x ∨ x = tb) a cap S L A hn Mw Mn R := ⟨K.more hb1 (fun x q => q.imp_right (fun e => by rw [e]; exact ⟨by omega, B1.lt⟩)), B1, .inr rfl, hg, hs, hm, hk, h19, h128, hcap⟩
  have HRD := hide (tRead_any G1)
  have HLF := hide (fun W (q : Blk W tb (Tbv pb a cap) 85) => left_any q hcap R G1.ok)
  have HX := hide (And.intro (Only.of_below (P := fun x => ¬ X x) hb1) (show ∀ x, X x → x < w.heap.size from fun x hx => K.lt x hx))
  have hneg : decide (((cap : Int) - (qs R 8 : Int)) < 0) = false := decide_eq_false (by omega)
  have hzl := lC_len R
  have hzo := lC_one R
  generalize (cap : Int) - (qs R 8 : Int) = lf at *
  generalize lC R = zs at *
  unfold Tbv at hx1
  clear K hs hm hk hb1 B1 G1 hq
  go_enter Tryz.func10, Tryz.ntmps10
  go_wp2_with (first | (go_at_call 30; refine (unhide HCN _).mono ?_; rintro e w' ⟨rfl, hw'⟩; subst w') | (go_at_call 31; refine (unhide HSZ).mono ?_; rintro e w' ⟨rfl, hw'⟩; subst w'))
  clear hx1
  refine (unhide HRD).mono ?_
  rintro e x5 ⟨rfl, S5, G5, ho5, hT5, hO5⟩
  obtain ⟨h7, hh7⟩ : ∃ xx, x5.heap.size = xx := ⟨_, rfl⟩
  obtain ⟨x6, hx6⟩ : ∃ xx, x5.alloc (.cells Tryz.zeroCells90 90) = xx := ⟨_, rfl⟩
  have BZ6 : Blk x6 h7 Tryz.zeroCells90 90 := by rw [← hx6, ← hh7]; exact Blk.new x5 _ _
  have hzz : (Tryz.zeroCells90).size = 160 := by rw [← lC_zero]; simp [lC_len]
  have TH6 := hide (blk_there BZ6 zs.toArray.size (by rw [hzz]; simp [hzl]))
  have B7 := setCells_all BZ6 zs (by rw [hzz, hzl])
  have hb6 : Below x5.heap.size x5 x6 := by rw [← hx6]; exact (Below.refl _ x5).alloc (Nat.le_refl _) _
  have hb7 : Below x5.heap.size x5 (x6.setCells h7 0 zs) := below_setCells (by omega) zs 0 hb6
  obtain ⟨x7, hx7⟩ : ∃ xx, x6.setCells h7 0 zs = xx := ⟨_, rfl⟩
  rw [hx7] at B7 hb7
  have R7 := hide (blk_range B7)
  have HZL := hide hzl
  have HZO := hide hzo
  have G7 := G5.below hb7
  have X7 := hide (And.intro G7 (And.intro ho5 (And.intro hT5 (hO5.trans (Only.of_below (P := fun x => ¬ (X x ∨ x = tb)) hb7) (fun _ _ q => q)))))
  have HL7 := hide (unhide HLF x7 G7.bk)
  clear BZ6 hzz B7 hb6 hb7 hzl hzo G5 G7 ho5 hT5 hO5 HRD HLF
  go_wp2_with (first | refine wpList_store_mid rfl 90 (.tmp 9) (.tmp 37) rfl h7 0 zs.toArray rfl rfl (unhide TH6) (by rw [sizeRol]; simp [unhide HZL]) (unhide HZO) ?_ | refine wpList_load_mid rfl 90 (.tmp 9) rfl h7 0 rfl _ _ (unhide R7) Tryz.underlying90 rfl (by rw [sizeRol, unhide HZL]) ?_)
  clear hx6 hx7 hh7 TH6 R7 HZO
  refine (unhide HL7).mono ?_
  rintro e x8 ⟨rfl, hb8⟩
  obtain ⟨G7, ho5, hT5, hO7⟩ := unhide X7
  have HF := hide (show w.heap.size ≤ tb ∧ ∃ S', TG w0 x8 b jb pb tb (fun x => X x ∨ x = tb) a cap S' L A hn Mw Mn R ∧ S'.op = S.op ∧ Tk S' S ∧ Only (fun x => ¬ X x) w x8 from ⟨by omega, S5, G7.below hb8, ho5, hT5, ((unhide HX).1.trans (hO7.mono (fun x _ q r => q (.inl r))) (fun _ _ q => q)).trans (Only.of_below (P := fun x => ¬ X x) hb8) (fun _ _ q => q)⟩)
  clear hb8 G7 ho5 hT5 hO7 X7 HL7
  go_wp2
  go_ret2
  exact ⟨tb, rfl, (unhide HF).1, (unhide HF).2⟩
/-- A table between the calls of a law: Rw is what was committed, R what the transaction sees. -/
def TSt (w0 w : World) (b jb pb tb : Nat) (X : Nat → Prop) (a cap kp : Nat) (op : Bool) (L : List ByteArray) (A : List (Nat × Nat)) (hn : Nat) (Rw R : Nat → Rc) : Prop :=
  ∃ S Mw Mn, TG w0 w b jb pb tb X a cap S L A hn Mw Mn R ∧ TS Mw a Rw ∧ S.op = op ∧ S.keep = kp
theorem TSt.below {w0 w : World} {b jb pb tb : Nat} {X : Nat → Prop} {a cap kp : Nat} {op : Bool} {L : List ByteArray} {A : List (Nat × Nat)} {hn : Nat} {Rw R : Nat → Rc} (h : TSt w0 w b jb pb tb X a cap kp op L A hn Rw R) {w' : World} (hb : Below w.heap.size w w') : TSt w0 w' b jb pb tb X a cap kp op L A hn Rw R := by
  obtain ⟨S, Mw, Mn, h1, h2, h3, h4⟩ := h
  exact ⟨S, Mw, Mn, h1.below hb, h2, h3, h4⟩
theorem TSt.more {w0 w : World} {b jb pb tb : Nat} {X : Nat → Prop} {a cap kp : Nat} {op : Bool} {L : List ByteArray} {A : List (Nat × Nat)} {hn : Nat} {Rw R : Nat → Rc} (h : TSt w0 w b jb pb tb X a cap kp op L A hn Rw R) {w' : World} {Y : Nat → Prop} (hb : Below w.heap.size w w') (hy : ∀ x, Y x → X x ∨ (w.heap.size ≤ x ∧ x < w'.heap.size)) (ht : Y tb) : TSt w0 w' b jb pb tb Y a cap kp op L A hn Rw R := by
  obtain ⟨S, Mw, Mn, h1, h2, h3, h4⟩ := h
  exact ⟨S, Mw, Mn, h1.more hb hy ht, h2, h3, h4⟩
theorem TSt.bel {w0 w : World} {b jb pb tb : Nat} {X : Nat → Prop} {a cap kp : Nat} {op : Bool} {L : List ByteArray} {A : List (Nat × Nat)} {hn : Nat} {Rw R : Nat → Rc} (h : TSt w0 w b jb pb tb X a cap kp op L A hn Rw R) : Below w0.heap.size w0 w := by
  obtain ⟨S, Mw, Mn, h1, h2, h3, h4⟩ := h
  exact h1.bel
theorem TSt.ok {w0 w : World} {b jb pb tb : Nat} {X : Nat → Prop} {a cap kp : Nat} {op : Bool} {L : List ByteArray} {A : List (Nat × Nat)} {hn : Nat} {Rw R : Nat → Rc} (h : TSt w0 w b jb pb tb X a cap kp op L A hn Rw R) : ∀ k, k < 8 → ROk (R k) := by
  obtain ⟨S, Mw, Mn, h1, h2, h3, h4⟩ := h
  exact h1.ok
theorem TSt.cp {w0 w : World} {b jb pb tb : Nat} {X : Nat → Prop} {a cap kp : Nat} {op : Bool} {L : List ByteArray} {A : List (Nat × Nat)} {hn : Nat} {Rw R : Nat → Rc} (h : TSt w0 w b jb pb tb X a cap kp op L A hn Rw R) : cap ≤ 1024 := by
  obtain ⟨S, Mw, Mn, h1, h2, h3, h4⟩ := h
  exact h1.cp
theorem TSt.begin {w0 w : World} {b jb pb tb : Nat} {X : Nat → Prop} {a cap kp : Nat} {L : List ByteArray} {A : List (Nat × Nat)} {hn : Nat} {Rw R : Nat → Rc} (h : TSt w0 w b jb pb tb X a cap kp false L A hn Rw R) : Calls Tryz.prog 13 #[.pointer (some ⟨pb, 0, none⟩)] w fun e w' => e = .returned (.int .i64 0) ∧ TSt w0 w' b jb pb tb X a cap kp true L A hn Rw R ∧ Only (fun x => ¬ X x) w w' := by
  obtain ⟨S, Mw, Mn, h1, h2, h3, h4⟩ := h
  obtain ⟨s1, s2, s3, s4⟩ := h1.seen.begin
  rw [h3] at s1
  have hc := pbegin_any h1.pk
  rw [show beginE S = 0 from s1] at hc
  refine hc.mono ?_
  rintro e w' ⟨rfl, K, hO⟩
  exact ⟨rfl, ⟨_, Mw, Mn, h1.next K hO s2 h1.ts (by rw [s4]; exact h1.tk), h2, s3, by rw [← h4]; unfold beginS; split <;> (try split) <;> rfl⟩, hO⟩
theorem TG.t16 {w0 w : World} {b jb pb tb : Nat} {X : Nat → Prop} {a cap : Nat} {S : PS} {L : List ByteArray} {A : List (Nat × Nat)} {hn : Nat} {Mw Mn : List ByteArray} {R : Nat → Rc} (h : TG w0 w b jb pb tb X a cap S L A hn Mw Mn R) : S.tx.length ≤ 16 := by have := h.few; omega
theorem TG.tok {w0 w : World} {b jb pb tb : Nat} {X : Nat → Prop} {a cap : Nat} {S : PS} {L : List ByteArray} {A : List (Nat × Nat)} {hn : Nat} {Mw Mn : List ByteArray} {R : Nat → Rc} (h : TG w0 w b jb pb tb X a cap S L A hn Mw Mn R) : ∀ p ∈ S.tx, 19 ≤ p.1 ∧ p.1 < 128 ∧ p.2.size = 256 := by
  obtain ⟨bw, bv, ov, K⟩ := h.pk
  have := K.tok
  rw [h.seen.rst.s, show (rs L A).last = L from rfl, h.seen.len] at this
  exact this
theorem TSt.commit {w0 w : World} {b jb pb tb : Nat} {X : Nat → Prop} {a cap kp : Nat} {L : List ByteArray} {A : List (Nat × Nat)} {hn : Nat} {Rw R : Nat → Rc} (h : TSt w0 w b jb pb tb X a cap kp true L A hn Rw R) (ha : A.length ≤ 1000000) : Calls Tryz.prog 17 #[.pointer (some ⟨pb, 0, none⟩)] w fun e w' => e = .returned (.int .i64 0) ∧ (∃ L' A', A'.length ≤ A.length + 38 ∧ TSt w0 w' b jb pb tb X a cap kp false L' A' ((hn + 1) % 4294967296) R R) ∧ Only (fun x => ¬ X x) w w' := by
  obtain ⟨S, Mw, Mn, h1, h2, h3, h4⟩ := h
  obtain ⟨s1, s2, s3⟩ := h1.seen.commit h3 h1.srt h1.t16 h1.tok
  have hc := pcommit_any h1.pk (by rw [h1.seen.rst.nx]; exact Nat.mod_lt _ (by decide)) (by rw [h1.seen.rst.s]; exact Nat.zero_le _) (by rw [h1.seen.rst.s]; show A.length ≤ _; omega)
  rw [s1] at hc
  refine hc.mono ?_
  rintro e w' ⟨rfl, K, hO⟩
  refine ⟨rfl, ⟨_, _, ?_, _, Mn, Mn, h1.next K hO s2 h1.ts ?_, h1.ts, s3, ?_⟩, hO⟩
  · rw [List.length_append, comA_len _ h1.t16]
    exact Nat.le_refl _
  · rw [s2.cl s3]
    intro p hp
    cases hp
  · rw [← h4]
    exact (commit_rest h1.seen.rst h3 h1.seen.len (tx_good h1.srt h1.t16 h1.tok)).2.2.2.2.1
theorem TKept.st {w0 w : World} {b jb pb tb : Nat} {X : Nat → Prop} {a cap kp : Nat} {op : Bool} {S : PS} {L : List ByteArray} {A : List (Nat × Nat)} {hn : Nat} {Mw Mn : List ByteArray} {Rw R : Nat → Rc} {w' : World} (k : TKept w0 w b jb pb tb X a cap S L A hn Mw Mn R w') (h2 : TS Mw a Rw) (h3 : S.op = op) (h4 : S.keep = kp) : TSt w0 w' b jb pb tb X a cap kp op L A hn Rw R ∧ Only (fun x => ¬ X x) w w' := by
  obtain ⟨S', k1, k2, k3, k4⟩ := k
  exact ⟨⟨S', Mw, Mn, k1, h2, k2.trans h3, k3.2.trans h4⟩, k4⟩
theorem TChg.st {w0 w : World} {b jb pb tb : Nat} {X : Nat → Prop} {a cap kp : Nat} {S : PS} {L : List ByteArray} {A : List (Nat × Nat)} {hn : Nat} {Mw : List ByteArray} {Rw R' : Nat → Rc} {w' : World} (k : TChg w0 w b jb pb tb X a cap S L A hn Mw R' w') (h2 : TS Mw a Rw) (h4 : S.keep = kp) : TSt w0 w' b jb pb tb X a cap kp true L A hn Rw R' ∧ Only (fun x => ¬ X x) w w' := by
  obtain ⟨S', Mn', k1, k2, k3, k4⟩ := k
  exact ⟨⟨S', Mw, Mn', k1, h2, k2, k3.trans h4⟩, k4⟩
theorem TSt.add_ok {w0 w : World} {b jb pb tb : Nat} {X : Nat → Prop} {a cap kp : Nat} {L : List ByteArray} {A : List (Nat × Nat)} {hn : Nat} {Rw R : Nat → Rc} (h : TSt w0 w b jb pb tb X a cap kp true L A hn Rw R) (k : Nat) (hk : k < 8) (q : Nat) (hq : q ≤ 65535) (hE : wAdd (R k) ((cap : Int) - (qs R 8 : Int)) q = 0) : Calls Tryz.prog 14 #[.pointer (some ⟨tb, 0, none⟩), .int .i64 ((k + 1 : Nat) : Int), .int .i64 (q : Int)] w fun e w' => e = .returned (.int .i64 0) ∧ TSt w0 w' b jb pb tb X a cap kp true L A hn Rw (ups R k ⟨true, q, 0, []⟩) ∧ Only (fun x => ¬ X x) w w' := by
  obtain ⟨S, Mw, Mn, h1, h2, h3, h4⟩ := h
  refine (tAdd_ok h1 h3 k hk q hq hE).mono ?_
  rintro e w' ⟨rfl, q⟩
  exact ⟨rfl, q.st h2 h4⟩
theorem TSt.add_no {w0 w : World} {b jb pb tb : Nat} {X : Nat → Prop} {a cap kp : Nat} {L : List ByteArray} {A : List (Nat × Nat)} {hn : Nat} {Rw R : Nat → Rc} (h : TSt w0 w b jb pb tb X a cap kp true L A hn Rw R) (k : Nat) (hk : k < 8) (q : Nat) (hq : q ≤ 65535) (hE : wAdd (R k) ((cap : Int) - (qs R 8 : Int)) q ≠ 0) : Calls Tryz.prog 14 #[.pointer (some ⟨tb, 0, none⟩), .int .i64 ((k + 1 : Nat) : Int), .int .i64 (q : Int)] w fun e w' => e = .returned (.int .i64 (wAdd (R k) ((cap : Int) - (qs R 8 : Int)) q)) ∧ TSt w0 w' b jb pb tb X a cap kp true L A hn Rw R ∧ Only (fun x => ¬ X x) w w' := by
  obtain ⟨S, Mw, Mn, h1, h2, h3, h4⟩ := h
  refine (tAdd_no h1 h3 k hk q hq hE).mono ?_
  rintro e w' ⟨rfl, q⟩
  exact ⟨rfl, q.st h2 h3 h4⟩
theorem TSt.charge_ok {w0 w : World} {b jb pb tb : Nat} {X : Nat → Prop} {a cap kp : Nat} {L : List ByteArray} {A : List (Nat × Nat)} {hn : Nat} {Rw R : Nat → Rc} (h : TSt w0 w b jb pb tb X a cap kp true L A hn Rw R) (k : Nat) (hk : k < 8) (m : Int) (hE : wChg (R k) m = 0) : Calls Tryz.prog 15 #[.pointer (some ⟨tb, 0, none⟩), .int .i64 ((k + 1 : Nat) : Int), .int .i64 m] w fun e w' => e = .returned (.int .i64 0) ∧ TSt w0 w' b jb pb tb X a cap kp true L A hn Rw (ups R k (chgR (R k) m)) ∧ Only (fun x => ¬ X x) w w' := by
  obtain ⟨S, Mw, Mn, h1, h2, h3, h4⟩ := h
  refine (tCharge_ok h1 h3 k hk m hE).mono ?_
  rintro e w' ⟨rfl, q⟩
  exact ⟨rfl, q.st h2 h4⟩
theorem TSt.addVol_ok {w0 w : World} {b jb pb tb : Nat} {X : Nat → Prop} {a cap kp : Nat} {L : List ByteArray} {A : List (Nat × Nat)} {hn : Nat} {Rw R : Nat → Rc} (h : TSt w0 w b jb pb tb X a cap kp true L A hn Rw R) (k : Nat) (hk : k < 8) (a0 b0 : Nat) (ha0 : a0 ≤ 99) (hb0 : b0 ≤ 1023) (hE : wAdv (R k) a0 = 0) : Calls Tryz.prog 16 #[.pointer (some ⟨tb, 0, none⟩), .int .i64 ((k + 1 : Nat) : Int), .int .i64 (a0 : Int), .int .i64 (b0 : Int)] w fun e w' => e = .returned (.int .i64 0) ∧ TSt w0 w' b jb pb tb X a cap kp true L A hn Rw (ups R k ((R k).with a0 b0)) ∧ Only (fun x => ¬ X x) w w' := by
  obtain ⟨S, Mw, Mn, h1, h2, h3, h4⟩ := h
  refine (tAddVol_ok h1 h3 k hk a0 b0 ha0 hb0 hE).mono ?_
  rintro e w' ⟨rfl, q⟩
  exact ⟨rfl, q.st h2 h4⟩
theorem TSt.get_ok {w0 w : World} {b jb pb tb : Nat} {X : Nat → Prop} {a cap kp : Nat} {op : Bool} {L : List ByteArray} {A : List (Nat × Nat)} {hn : Nat} {Rw R : Nat → Rc} (h : TSt w0 w b jb pb tb X a cap kp op L A hn Rw R) (k : Nat) (hk : k < 8) (hth : (R k).th = true) : Calls Tryz.prog 18 #[.pointer (some ⟨tb, 0, none⟩), .int .i64 ((k + 1 : Nat) : Int)] w fun e w' => ∃ v, e = .returned (.tuple #[.agg #[.int .i64 ((k + 1 : Nat) : Int), .int .i64 ((R k).q : Int), .int .i64 ((R k).c : Int), v], .int .i64 0]) ∧ w'.ownsRow w.heap.size 54 2 v (R k).v.length (vls (R k)) ∧ TSt w0 w' b jb pb tb X a cap kp op L A hn Rw R ∧ Only (fun x => ¬ X x) w w' := by
  obtain ⟨S, Mw, Mn, h1, h2, h3, h4⟩ := h
  refine (tGet_ok h1 k hk hth).mono ?_
  rintro e w' ⟨v, rfl, q1, q2⟩
  exact ⟨v, rfl, q1, q2.st h2 h3 h4⟩
set_option maxRecDepth 100000 in
set_option maxHeartbeats 2000000 in
theorem topened_any (cap : Nat) (hcap : cap ≤ 1024) (w : World) (hg : ETy w) :
    Calls Tryz.prog 12 #[.int .i64 (cap : Int)] w fun e w' => ∃ b pb tb, e = .returned (.tuple #[.pointer (some ⟨b, 0, none⟩), .pointer (some ⟨pb, 0, none⟩), .pointer (some ⟨tb, 0, none⟩), .bool true]) ∧ ∃ jb L A hn, A.length ≤ 1000 ∧ TSt w w' b jb pb tb (fun x => x = tb) 19 cap 4 false L A hn (fun _ => Rc0) (fun _ => Rc0) := by
  have HLD := hide (tlaid_any 19 (by decide) (by decide) w)
  simp only [Int.cast_ofNat_Int] at HLD
  have HQ := hide hg
  clear hg
  go_enter Tryz.func12, Tryz.ntmps12
  go_wp2_with fail
  refine (unhide HLD).mono ?_
  rintro e x2 ⟨b, rfl, dv, d1, d2, d3⟩
  have hg := unhide HQ
  have HPO := hide (tpopen_rest (w0 := w) (T := fun _ => Rc0) (a := 19) d1 d2 (hg.below d2 hg.lt) d3 0 (by decide) (ld_len _ _) (ld_size 19 _ (fun i hi => pgN_size i (by rw [pgN_len] at hi; exact hi))) (ld_head 19 _ (by decide)) (by rw [ldA_len, pgN_len]; decide) 4 (by decide) (ts_zero 19 (by decide)) (fun L A T => T = (fun _ => Rc0) ∧ A.length ≤ 1000) ⟨rfl, by rw [ldA_len, pgN_len]; decide⟩)
  simp only [Int.cast_ofNat_Int] at HPO
  clear d1 d2 d3 hg HLD
  go_wp2_with fail
  refine (unhide HPO).mono ?_
  rintro e x3 ⟨jb, pb, S, L, A, n0, T, rfl, K, hs, ho, ht, hm, rfl, hA⟩
  have HIO := hide (topen_ok (cap := cap) K (unhide HQ) hs hm (by rw [ht.1]; intro p hp; cases hp) (by decide) (by decide) hcap (Nat.zero_le _))
  have HR := hide (And.intro ho (And.intro ht (And.intro hA hm)))
  simp only [Int.cast_ofNat_Int] at HIO
  clear K hs ho ht hm hA HPO
  go_wp2_with fail
  refine (unhide HIO).mono ?_
  rintro e x4 ⟨tb, rfl, _, S', k1, k2, k3, k4⟩
  obtain ⟨ho, ht, hA, hm⟩ := unhide HR
  have HK := hide (show ∃ jb L A hn, A.length ≤ 1000 ∧ TSt w x4 b jb pb tb (fun x => x = tb) 19 cap 4 false L A hn (fun _ => Rc0) (fun _ => Rc0) from ⟨jb, _, A, n0, hA, S', _, _, k1.less (fun x q => .inr q) rfl, hm, k2.trans ho, k3.2.trans ht.2⟩)
  clear k1 k2 k3 k4 ho ht hA hm HIO HR
  go_wp2
  refine bodyPost_ret (results_tmp4 rfl _ _ _) rfl ?_
  exact ⟨b, pb, tb, rfl, unhide HK⟩
end Go.Proofs.YtpcmifmgkccfnaaGreatDoor

namespace Go.Proofs.YtpcmifmgkccfnaaGreatDoor
open Go.RowKit Go.Maps Go.Sort Go.Shelf
def aw0 : Nat → Rc := fun _ => Rc0
def aw1 : Nat → Rc := ups aw0 0 ⟨true, 83, 0, []⟩
def aw2 : Nat → Rc := ups aw1 0 (chgR (aw1 0) 3)
def aw3 : Nat → Rc := ups aw2 0 ((aw2 0).with 5 7)
theorem aw_a : wAdd (aw0 0) (((83 : Nat) : Int) - (qs aw0 8 : Int)) 83 = 0 := rfl
theorem aw_b : wAdd (aw1 1) (((83 : Nat) : Int) - (qs aw1 8 : Int)) 1 = 114 := rfl
theorem aw_c : wChg (aw1 0) 3 = 0 := rfl
theorem aw_d : wAdv (aw2 0) 5 = 0 := by
  unfold wAdv
  rw [if_pos (show (aw2 0).th = true from rfl), if_neg (fun ⟨p, h1, _⟩ => absurd h1 (by show ¬ p < 0; omega)), if_neg (show ¬ (aw2 0).v.length = 8 from fun q => by cases q)]
theorem eq_V57 (w : World) : (Op.equalIn 10000 54 (.agg #[.int .i64 5, .int .i64 7]) (.agg #[.int .i64 5, .int .i64 7])).run Tryz.prog w = .ok true w := by kernel_rfl
/-- A row of one volume. -/
theorem one_vol {w : World} {base : Nat} {v x y : Value} (h : w.ownsRow base 54 2 v 1 [x, y]) : ∃ g cp, v = .slice (some ⟨g, 0, none⟩) 1 cp ∧ w.cell? ⟨g, 0, none⟩ = some x ∧ w.cell? ⟨g, 1, none⟩ = some y := by
  obtain ⟨p, cp, hv, -⟩ := row_form h
  have h' := h
  rcases h.2 with ⟨_, q⟩ | ⟨g, cap, cur, q, _⟩
  · cases q
  · rw [q] at h'
    exact ⟨g, cap, q, by rw [h'.cellAt 0 (by decide)]; rfl, by rw [h'.cellAt 1 (by decide)]; rfl⟩
set_option maxRecDepth 100000 in
set_option maxHeartbeats 2000000 in
theorem awake11_any (w : World) (hg : ETy w) : Calls Tryz.prog 4 #[] w fun e w' => e = .returned (.bool true) ∧ Below w.heap.size w w' := by
  have HOP := hide (topened_any 83 (by decide) w hg)
  simp only [Int.cast_ofNat_Int] at HOP
  clear hg
  go_enter Tryz.func4, Tryz.ntmps4
  go_wp2_with fail
  refine (unhide HOP).mono ?_
  rintro e x1 ⟨b, pb, tb, rfl, jb, LL, AA, hn, hA, h1⟩
  have HA := hide hA
  have HC := hide h1.begin
  clear h1 hA HOP
  go_wp2_with fail
  refine (unhide HC).mono ?_
  rintro e x2 ⟨rfl, h2, -⟩
  have h2' : TSt w x2 b jb pb tb (fun x => x = tb) 19 83 4 true LL AA hn aw0 aw0 := h2
  have HC := hide (h2'.add_ok 0 (by decide) 83 (by decide) aw_a)
  simp only [show ((0 + 1 : Nat) : Int) = 1 from rfl, show ((83 : Nat) : Int) = 83 from rfl] at HC
  clear h2 h2'
  go_wp2_with fail
  refine (unhide HC).mono ?_
  rintro e x3 ⟨rfl, h3, -⟩
  have h3' : TSt w x3 b jb pb tb (fun x => x = tb) 19 83 4 true LL AA hn aw0 aw1 := h3
  have HC := hide (h3'.add_no 1 (by decide) 1 (by decide) (show wAdd (aw1 1) (((83 : Nat) : Int) - (qs aw1 8 : Int)) 1 ≠ 0 by rw [aw_b]; decide))
  rw [aw_b] at HC
  simp only [show ((1 + 1 : Nat) : Int) = 2 from rfl, show ((1 : Nat) : Int) = 1 from rfl] at HC
  clear h3 h3'
  go_wp2_with fail
  refine (unhide HC).mono ?_
  rintro e x4 ⟨rfl, h4, -⟩
  have h4' : TSt w x4 b jb pb tb (fun x => x = tb) 19 83 4 true LL AA hn aw0 aw1 := h4
  have HC := hide (h4'.charge_ok 0 (by decide) 3 aw_c)
  simp only [show ((0 + 1 : Nat) : Int) = 1 from rfl] at HC
  clear h4 h4'
  go_wp2_with fail
  refine (unhide HC).mono ?_
  rintro e x5 ⟨rfl, h5, -⟩
  have h5' : TSt w x5 b jb pb tb (fun x => x = tb) 19 83 4 true LL AA hn aw0 aw2 := h5
  have HC := hide (h5'.addVol_ok 0 (by decide) 5 7 (by decide) (by decide) aw_d)
  simp only [show ((0 + 1 : Nat) : Int) = 1 from rfl, show ((5 : Nat) : Int) = 5 from rfl, show ((7 : Nat) : Int) = 7 from rfl] at HC
  clear h5 h5'
  go_wp2_with fail
  refine (unhide HC).mono ?_
  rintro e x6 ⟨rfl, h6, -⟩
  have h6' : TSt w x6 b jb pb tb (fun x => x = tb) 19 83 4 true LL AA hn aw0 aw3 := h6
  have HC := hide (h6'.commit (by have := unhide HA; omega))
  clear h6 h6'
  go_wp2_with fail
  refine (unhide HC).mono ?_
  rintro e x7 ⟨rfl, ⟨L2, A2, hA2, h7⟩, -⟩
  have HC := hide (h7.get_ok 0 (by decide) (show (aw3 0).th = true from rfl))
  simp only [show ((0 + 1 : Nat) : Int) = 1 from rfl] at HC
  clear h7 hA2
  go_wp2_with fail
  refine (unhide HC).mono ?_
  rintro e x8 ⟨v, rfl, hv, h8, -⟩
  obtain ⟨g, cp, rfl, c0, c1⟩ := one_vol (show x8.ownsRow x7.heap.size 54 2 v 1 [.int .i64 5, .int .i64 7] from hv)
  rw [show ((aw3 0).q : Int) = 83 from rfl, show ((aw3 0).c : Int) = 3 from rfl]
  have HB := hide h8.bel
  obtain ⟨h9, hh9⟩ : ∃ xx, x8.heap.size = xx := ⟨_, rfl⟩
  obtain ⟨x9, hx9⟩ : ∃ xx, x8.alloc (.cells #[.int .i64 1, .int .i64 83, .int .i64 3, .slice (some ⟨g, 0, none⟩) 1 cp] 50) = xx := ⟨_, rfl⟩
  have B9 : Blk x9 h9 #[.int .i64 1, .int .i64 83, .int .i64 3, .slice (some ⟨g, 0, none⟩) 1 cp] 50 := by rw [← hx9, ← hh9]; exact Blk.new x8 _ _
  have d0 : x9.cell? ⟨h9, 0, none⟩ = some (.int .i64 1) := B9.cell 0
  have d1 : x9.cell? ⟨h9, 1, none⟩ = some (.int .i64 83) := B9.cell 1
  have d2 : x9.cell? ⟨h9, 2, none⟩ = some (.int .i64 3) := B9.cell 2
  have d3 : x9.cell? ⟨h9, 3, none⟩ = some (.slice (some ⟨g, 0, none⟩) 1 cp) := B9.cell 3
  have hb9 : Below x8.heap.size x8 x9 := by rw [← hx9]; exact (Below.refl _ x8).alloc (Nat.le_refl _) _
  have e0 : x9.cell? ⟨g, 0, none⟩ = some (.int .i64 5) := (hb9.cell (p := ⟨g, 0, none⟩) (World.block_lt_of_cell? x8 _ c0)).trans c0
  have e1 : x9.cell? ⟨g, 1, none⟩ = some (.int .i64 7) := (hb9.cell (p := ⟨g, 1, none⟩) (World.block_lt_of_cell? x8 _ c1)).trans c1
  have HBF := hide ((unhide HB).trans (hb9.mono (unhide HB).size))
  have hq := eq_V57
  clear hv h8 c0 c1 B9 hb9 HC
  go_wp2
  go_ret
  exact ⟨rfl, unhide HBF⟩
end Go.Proofs.YtpcmifmgkccfnaaGreatDoor

namespace Go.Proofs.YtpcmifmgkccfnaaGreatDoor
open Go.RowKit Go.Maps Go.Sort Go.Shelf
set_option maxRecDepth 100000
theorem Rk.fr {w : World} {base b : Nat} {v : RV} {s : DSt} (h : Rk w base b v s) (k : Nat) (hk : Fr4 b v k) : base ≤ k ∧ k < w.heap.size := by
  rcases hk with q | q | q | q
  · rw [q]; exact ⟨h.lo, h.blk.lt⟩
  · exact h.rl.lt k q
  · exact h.rp.lt k q
  · exact h.ra.lt k q
theorem format_any0 (w : World) (base b : Nat) (v : RV) (h : Rk w base b v (freshS (List.replicate 128 zero256))) (hb : base ≤ w.heap.size) :
    Calls Tryz.prog 7 #[.pointer (some ⟨b, 0, none⟩)] w fun e w' => e = .returned (.int .i64 0) ∧ RPst base b v (rs L0 A0) w w' := by
  have := rformat_any w base b v _ h hb (Sane.fresh _ (by simp) (by simp)) (Coh.fresh _) (Nat.zero_le _) (Nat.zero_le _)
  rw [format_rs] at this
  exact this
set_option maxHeartbeats 4000000 in
theorem topens11 (at_ cap : Int) (w : World) (hg : ETy w) :
    Calls Tryz.prog 3 #[.int .i64 at_, .int .i64 cap] w fun e w' => e = .returned (.bool true) ∧ Below w.heap.size w w' := by
  have HAW := hide (awake11_any w hg)
  have HG := hide hg
  clear hg
  go_enter Tryz.func3, Tryz.ntmps3
  go_wp2_with fail
  refine (unhide HAW).mono ?_
  rintro e x1 ⟨rfl, hb1⟩
  have HB1 := hide hb1
  have HG1 := hide ((unhide HG).below hb1 (unhide HG).lt)
  have HLD := hide (tlaid0 x1)
  clear hb1 HAW
  go_wp2_with fail
  refine (unhide HLD).mono ?_
  rintro e x2 ⟨b, rfl, v, hD2, hb2, hS2⟩
  have HD2 := hide (And.intro hD2 (And.intro hb2 hS2))
  have HNW := hide (rnew_any 128 x2)
  clear hD2 hb2 hS2 HLD
  go_wp2_with fail
  refine (unhide HNW).mono ?_
  intro e x3 hp3
  rw [RNewPost, if_pos (by decide)] at hp3
  obtain ⟨br, vr, rfl, hR3, hb3⟩ := hp3
  have hR3' : Rk x3 x2.heap.size br ⟨vr, .slice none 0 0, .slice none 0 0⟩ (freshS (List.replicate 128 zero256)) := Rk0.rk hR3
  have HR3 := hide (And.intro hR3' hb3)
  have HFM := hide (format_any0 x3 x2.heap.size br _ hR3' hb3.size)
  clear hR3 hR3' hb3 HNW
  go_wp2_with fail
  refine (unhide HFM).mono ?_
  rintro e x4 ⟨rfl, v4, hR4, hO4, -⟩
  have hb34 : Below x2.heap.size x3 x4 := hO4.below (unhide HR3).2.size (fun k hk q => by have := ((unhide HR3).1.fr k q).1; omega)
  have hb24 : Below x2.heap.size x2 x4 := (unhide HR3).2.trans hb34
  have hD4 : Dk x4 x1.heap.size b v (rs L0 (A0 ++ [(1, 0)])) := (unhide HD2).1.below hb24
  have hb14 : Below x1.heap.size x1 x4 := (unhide HD2).2.1.trans (hb24.mono (unhide HD2).2.1.size)
  have hE4 : ETy x4 := (unhide HG1).below hb14 (unhide HG1).lt
  have hX4 : ∀ x, Fr4 br v4 x → ¬ Fd b v x ∧ x < x4.heap.size := fun x hx => ⟨fun q => by have := ((unhide HD2).1.fd x q).2; have := (hR4.fr x hx).1; omega, (hR4.fr x hx).2⟩
  have HPO := hide (tpopen0 (X := Fr4 br v4) hD4 hb14 hX4 hE4 (unhide HD2).2.2 0 (by decide) (by rw [L0_len]; decide) head0 (by decide) 0 (by decide))
  rw [show ((0 : Nat) : Int) = 0 from rfl] at HPO
  have HR4 := hide hR4
  clear hR4 hO4 hb34 hb24 hD4 hb14 hE4 hX4 HFM HD2 HR3
  go_wp2_with fail
  refine (unhide HPO).mono ?_
  rintro e x5 ⟨jb, pb, rfl, hK5, hO5⟩
  have hR5 := (unhide HR4).only hO5 (fun k hk q => q hk)
  have HRO := hide (rpopen0 hR5 L0_len head0)
  have HK5 := hide hK5
  have HR5 := hide hR5
  clear hK5 hO5 hR5 HPO HR4
  go_wp2_with fail
  refine (unhide HRO).mono ?_
  rintro e x6 ⟨qb, j2, rfl, hq6, hqb, hb6⟩
  have hK6 := (unhide HK5).more (Y := fun x => Fr4 br v4 x ∨ x = qb) hb6 (fun x q => q.imp_right (fun e => by rw [e]; exact ⟨hqb, hq6.lt⟩))
  have hR6 := (unhide HR5).below hb6
  obtain ⟨E, hE⟩ : ∃ E : Int, Calls Tryz.prog 10 #[.pointer (some ⟨pb, 0, none⟩), .int .i64 at_, .int .i64 cap] x6 (fun e w' => e = .returned (.tuple #[.pointer none, .int .i64 E]) ∧ Only (fun x => ¬ (Fr4 br v4 x ∨ x = qb)) x6 w' ∧ Below x1.heap.size x1 w') ∧ ∀ W v', Rk W x2.heap.size br v' (rs L0 A0) → Blk W qb #[.pointer (some ⟨br, 0, none⟩), .pointer (some ⟨j2, 0, none⟩), .int .i64 0, .slice none 0 0, .slice none 0 0, .bool false, .bool false, .int .i64 0, .int .i64 0] 81 → Calls Tryz.prog 11 #[.pointer (some ⟨qb, 0, none⟩), .int .i64 at_, .int .i64 cap] W (fun e w' => e = .returned (.tuple #[.pointer none, .int .i64 E]) ∧ Only (fun x => x = qb) W w') := by
    by_cases hok : okA at_ cap
    · obtain ⟨c1, c2, c3, c4⟩ := hok
      obtain ⟨a, rfl⟩ := Int.eq_ofNat_of_zero_le c3
      obtain ⟨c, rfl⟩ := Int.eq_ofNat_of_zero_le c1
      exact ⟨115, topen_bad hK6 (unhide HG1) L0_len a c (by omega) (by omega) (noT_L0 a (by omega)), fun W v' hR hq => rtopen_bad hR ⟨rfl, fun q => by cases q⟩ L0_len hq a c (by omega) (by omega) (noT_L0 a (by omega))⟩
    · exact ⟨1, (topen_arg hK6 L0_len at_ cap hok).mono (fun e w' ⟨q1, q2⟩ => ⟨q1, by rw [q2]; exact Only.refl _ _, by rw [q2]; exact hK6.bel⟩), fun W v' hR hq => rtopen_arg hR L0_len hq at_ cap hok⟩
  have HE := hide hE
  have HQ6 := hide (And.intro hq6 hR6)
  have HQB := hide (show w.heap.size ≤ qb from by
    have q1 := (unhide HB1).size
    have q2 := (unhide HK5).bel.size
    omega)
  clear hq6 hqb hb6 hK6 hR6 hE HRO HK5 HR5
  go_wp2_with fail
  refine (unhide HE).1.mono ?_
  rintro e x7 ⟨rfl, hO7, hb7⟩
  have HR7 := hide ((unhide HE).2 x7 v4 ((unhide HQ6).2.only hO7 (fun k hk q => q (.inl hk))) ((unhide HQ6).1.only hO7 (fun q => q (.inr rfl))))
  have HB7 := hide (show Below w.heap.size w x7 from (unhide HB1).trans (hb7.mono (unhide HB1).size))
  clear hO7 hb7 HE HQ6
  go_wp2_with fail
  refine (unhide HR7).mono ?_
  rintro e x8 ⟨rfl, hO8⟩
  have HF := hide (show Below w.heap.size w x8 from (unhide HB7).trans (hO8.below (unhide HB7).size (fun k hk q => by have := unhide HQB; omega)))
  clear hO8 HR7 HB7 HQB
  have hee : (E == E) = true := by simp
  go_wp2
  go_ret
  exact ⟨rfl, unhide HF⟩
end Go.Proofs.YtpcmifmgkccfnaaGreatDoor
