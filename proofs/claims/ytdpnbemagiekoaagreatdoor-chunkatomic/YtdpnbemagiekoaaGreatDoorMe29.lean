import Derived.Test.YtdpnbemagiekoaaGreatDoorMe28
set_option maxHeartbeats 2000000
set_option maxRecDepth 100000
namespace Go.Proofs.YtdpnbemagiekoaaGreatDoor
open List renaming getElem_toArray -> lD, getElem_cons_succ -> lE, getElem_cons_zero -> lF
section
open Go.RowKit Go.Maps Go.Sort Go.Shelf
def IRel (w0 w : World) (b jb pb xb : Nat) (Y : Nat -> Prop) (a n : Nat) (S : PS) (L : List ByteArray) (A : List (Nat × Nat)) (hn : Nat) (Mw Mn : List ByteArray) (T : Nat -> En) (w' : World) : Prop :=
 ∃ S' eb bm, IG w0 w' b jb pb xb eb bm Y a n S' L A hn Mw Mn T T /\ S'.op = S.op /\ (S'.tx = S.tx /\ S'.keep = S.keep) /\ Only (fun x => ¬ Y x) w w'
def zOH (w0 w : World) (b jb pb xb : Nat) (Y : Nat -> Prop) (a : Nat) (S : PS) (L : List ByteArray) (A : List (Nat × Nat)) (hn : Nat) (Mw Mn : List ByteArray) (T : Nat -> En) (n fb eb bm k : Nat) (wr : World) : Prop :=
 ∃ S', PK w0 wr b jb pb S' (fun x => Y x ∨ x = xb ∨ x = fb ∨ x = eb ∨ x = bm) /\ Seen S' L A hn Mw Mn /\ S'.op = S.op /\ (S'.tx = S.tx /\ S'.keep = S.keep) /\ IH wr xb pb a /\ MM wr fb 0 eb bm n (zBF T (6 * k)) /\ Only (fun x => ¬ Y x) w wr /\ (∃ cs, Blk wr xb cs 96 /\ cs.size = 4) /\ ∃ cf, Blk wr fb cf 94
theorem zHw {w0 w : World} {b jb pb xb eb bm : Nat} {Y : Nat -> Prop} {a n : Nat} {S : PS} {L : List ByteArray} {A : List (Nat × Nat)} {hn : Nat} {Mw Mn : List ByteArray} {T U : Nat -> En} (h : IG w0 w b jb pb xb eb bm Y a n S L A hn Mw Mn T U) : Calls Tryz.prog 19 #[.pointer (some ⟨xb, 0, none⟩)] w fun e w' => e = .returned (.int .i64 0) /\ IRel w0 w b jb pb xb Y a n S L A hn Mw Mn T w' := by
 have c2 : w.cell? ⟨xb, 2, none⟩ = some (.slice (some ⟨eb, 0, none⟩) n n) := by rw [h.im.blk.cell]; rfl
 have HNM := uB (zDr n (by have := h.n2; omega) w)
 have HPO := uB (fun W => zCr n (by have := h.n2; omega) W)
 have HH := uB h
 have hn96 := h.n2
 clear h
 have hp0 : ipgs n <= 171 := zEt (by omega)
 obtain ⟨P0, hP0⟩ : ∃ q, ipgs n = q := ⟨_, rfl⟩
 rw [hP0] at HPO hp0
 have HP0 := uB hP0
 clear hP0
 go_enter Tryz.func19, Tryz.ntmps19
 go_wp2_with fail
 refine (uA HNM).mono ?_
 rintro e x1 ⟨eb2, bm2, rfl, he2, hm2, E1, P1, hb1⟩
 obtain ⟨fb, hfb⟩ : ∃ q, x1.heap.size = q := ⟨_, rfl⟩
 have X1 := uB (And.intro he2 (And.intro hm2 (And.intro E1 (And.intro P1 (And.intro hb1 hfb)))))
 clear HNM he2 hm2 E1 P1 hb1
 go_wp2_with (go_at_call 60; refine (uA HPO _).mono ?_; rintro e w' ⟨rfl, hw'⟩; subst w')
 obtain ⟨x2, hx2⟩ : ∃ q, x1.alloc (.cells #[.slice (some ⟨eb2, 0, none⟩) n n, .map (some bm2)] 94) = q := ⟨_, rfl⟩
 rw [hx2]
 obtain ⟨he2, hm2, E1, P1, hb1, hfb'⟩ := uA X1
 have hh := uA HH
 have hszw : w0.heap.size <= w.heap.size := hh.pk.bel.size
 have hb12 : Below x1.heap.size x1 x2 := by rw [<- hx2]; exact (Below.refl _ _).alloc (Nat.le_refl _) _
 have hbw : Below w.heap.size w x2 := hb1.trans (hb12.mono hb1.size)
 have F2 : Blk x2 fb #[.slice (some ⟨eb2, 0, none⟩) n n, .map (some bm2)] 94 := by rw [<- hx2, <- hfb']; exact Blk.new x1 _ _
 have hfl := F2.lt
 have E2 := E1.below hb12
 have P2 := P1.below hb12
 have hsz1 : w.heap.size <= fb := by rw [<- hfb']; exact hb1.size
 have M2 : MM x2 fb 0 eb2 bm2 n (zBF T (6 * 0)) := ⟨by rw [F2.cell]; rfl, by rw [F2.cell]; rfl, by rw [Nat.mul_zero, zFg]; exact E2, by rw [Nat.mul_zero, zFg]; exact P2, fun e => E2.ne F2 (by decide) e.symm, fun e => P2.ne F2 e.symm, zPe E2 P2, hfl⟩
 have hxl := hh.im.blk.lt
 have K2 := hh.pk.more (Y := fun x => Y x ∨ x = xb ∨ x = fb ∨ x = eb2 ∨ x = bm2) hbw (fun x hx => by
  rcases hx with q | q | q | q | q
  ·exact .inl (.inl q)
  ·exact .inl (.inr (.inl q))
  ·rw [q]; exact .inr ⟨hsz1, hfl⟩
  ·rw [q]; exact .inr ⟨he2, E2.lt⟩
  ·rw [q]; exact .inr ⟨hm2, P2.lt⟩)
 have X2 := uB (show zOH w0 w b jb pb xb Y a S L A hn Mw Mn T n fb eb2 bm2 0 x2 from ⟨S, K2, hh.seen, rfl, Tk2 S, hh.im.ih.below hbw, M2, Only.of_below hbw, ⟨_, hh.im.blk.below hbw hxl, rfl⟩, ⟨_, F2⟩⟩)
 have HLO := uB (show w.heap.size <= fb /\ w.heap.size <= eb2 /\ w.heap.size <= bm2 /\ w0.heap.size <= w.heap.size from ⟨hsz1, he2, hm2, hszw⟩)
 clear he2 hm2 E1 P1 hb1 hfb' hh hszw hb12 hbw F2 hfl E2 P2 hsz1 M2 hxl K2 X1 hx2 hfb
 go_loopw [18] (fun i wr => ∃ k : Nat, k <= P0 /\ i = .int .i64 (k : Int) /\ zOH w0 w b jb pb xb Y a S L A hn Mw Mn T n fb eb2 bm2 k wr) (fun i _ => P0 - (intOf i).toNat)
 case atStart => exact ⟨0, by omega, rfl, uA X2⟩
 case round =>
  obtain ⟨k, hk, rfl, hI⟩ := hrel
  obtain ⟨wo, rfl⟩ : ∃ wo, wo = wr := ⟨_, rfl⟩
  clear X2
  by_cases hkn : k < P0
  ·have hkn' : (k : Int) < (P0 : Int) := by omega
   obtain ⟨S1, K1, s1, s2, s3, s4, s5, s6, s7, s8⟩ := hI
   have hh := uA HH
   have hkp : k < ipgs n := by rw [uA HP0]; exact hkn
   have HRD := uB (zE7 K1 s4 (.inr (.inl rfl)) hh.ety s1 hh.is hh.ok hh.lo hh.hi k hkp)
   have HI := uB (And.intro s2 (And.intro s3 (And.intro s4 (And.intro s5 (And.intro s6 (And.intro s7 (And.intro s8 hkp)))))))
   clear K1 s1 s2 s3 s4 s5 s6 s7 s8 hh hkp
   go_wp2_with fail
   refine (uA HRD).mono ?_
   rintro e y1 ⟨rfl, S2, K2, t1, t2, t3, hO1⟩
   obtain ⟨s2, s3, s4, s5, s6, ⟨cx, s7, s7'⟩, ⟨cf, s8⟩, hkp⟩ := uA HI
   have hh := uA HH
   have M1 := s5.only hO1 (fun q => q (.inr (.inr (.inl rfl)))) (fun q => q (.inr (.inr (.inr (.inl rfl))))) (fun q => q (.inr (.inr (.inr (.inr rfl)))))
   obtain ⟨l1, l2, l3, l4⟩ := uA HLO
   have HTK := uB (zJV hh.ok (by have := hh.n2; omega) k hkp M1 hh.ety K2.bel (by omega) (by omega))
   have HY1 := uB (show PK w0 y1 b jb pb S2 (fun x => Y x ∨ x = xb ∨ x = fb ∨ x = eb2 ∨ x = bm2) /\ Seen S2 L A hn Mw Mn /\ S2.op = S.op /\ (S2.tx = S.tx /\ S2.keep = S.keep) /\ IH y1 xb pb a /\ Only (fun x => ¬ Y x) w y1 /\ Blk y1 xb cx 96 /\ cx.size = 4 /\ Blk y1 fb cf 94 from
    ⟨K2, t1, t2.trans s2, ⟨t3.1.trans s3.1, t3.2.trans s3.2⟩, s4.only hO1 (fun q => q (.inr (.inl rfl))), s6.trans hO1 (fun x _ q r => q (.inl r)), s7.only hO1 (fun q => q (.inr (.inl rfl))), s7', s8.only hO1 (fun q => q (.inr (.inr (.inl rfl))))⟩)
   clear K2 t1 t2 t3 hO1 s2 s3 s4 s5 s6 s7 s7' s8 hkp hh M1 l1 l2 l3 l4 HRD HI
   generalize ibd T k = body at *
   go_wp2_with fail
   refine (uA HTK).mono ?_
   rintro e y2 ⟨rfl, hM2, hO2, _⟩
   obtain ⟨K2, t1, t2, t3, t4, t5, t6, t6', t7⟩ := uA HY1
   obtain ⟨l1, l2, l3, l4⟩ := uA HLO
   have hne1 : xb ≠ eb2 /\ xb ≠ bm2 := by have := (uA HH).im.blk.lt; omega
   have HI2 := uB (show zOH w0 w b jb pb xb Y a S L A hn Mw Mn T n fb eb2 bm2 (k + 1) y2 from
    ⟨S2, K2.poke (P := fun x => x = eb2 ∨ x = bm2) hO2 (fun x q _ => by rcases q with q | q; exact .inr (.inr (.inr (.inl q))); exact .inr (.inr (.inr (.inr q)))) (fun x q => by rcases q with q | q <;> omega) (fun x q => .inl q), t1, t2, t3, t4.only hO2 (by rintro (q | q); exact hne1.1 q; exact hne1.2 q), by rw [show 6 * (k + 1) = 6 * k + 6 by omega]; exact hM2,
     t5.trans hO2 (fun x hx q => by rcases q with q | q <;> omega), ⟨_, t6.only hO2 (by rintro (q | q); exact hne1.1 q; exact hne1.2 q), t6'⟩, ⟨_, t7.only hO2 (by rintro (q | q); exact hM2.ne q; exact hM2.nb q)⟩⟩)
   clear hM2 hO2 K2 t1 t2 t3 t4 t5 t6 t6' t7 l1 l2 l3 l4 hne1 HTK HY1
   go_wp2
   go_roundw
   case rel => exact ⟨k + 1, by omega, by go_num, uA HI2⟩
   case measure => simp [intOf]; omega
  ·have hkn' : ¬ (k : Int) < (P0 : Int) := by omega
   have hkp : k = P0 := by omega
   have HKP := uB hkp
   obtain ⟨S1, K1, s1, s2, s3, s4, s5, s6, ⟨cx, s7, s7'⟩, ⟨cf, s8⟩⟩ := hI
   have m0 : wo.cell? ⟨fb, 0, none⟩ = some (.slice (some ⟨eb2, 0, none⟩) n n) := s5.c0
   have m1 : wo.cell? ⟨fb, 1, none⟩ = some (.map (some bm2)) := s5.c1
   have hcx : cx = #[cx.getD 0 undef, cx.getD 1 undef, cx.getD 2 undef, cx.getD 3 undef] := by
    apply Array.ext
    ·simp [s7']
    ·intro i h1 h2
     rw [s7'] at h1
     rcases (show i = 0 ∨ i = 1 ∨ i = 2 ∨ i = 3 by omega) with rfl | rfl | rfl | rfl <;> simp [s7']
   have q2 : wo.cell? ⟨xb, 2, none⟩ = some (cx.getD 2 undef) := by rw [s7.cell]; simp [s7']
   have q3 : wo.cell? ⟨xb, 3, none⟩ = some (cx.getD 3 undef) := by rw [s7.cell]; simp [s7']
   have p2 := s7.frozen 2
   have p3 := s7.frozen 3
   have e0 : cx.getD 0 undef = .pointer (some ⟨pb, 0, none⟩) := by
    have := s4.c0
    rw [s7.cell] at this
    simp [this]
   have e1 : cx.getD 1 undef = .int .i64 (a : Int) := by
    have := s4.c1
    rw [s7.cell] at this
    simp [this]
   have HI := uB (And.intro K1 (And.intro s1 (And.intro s2 (And.intro s3 (And.intro s5 (And.intro s6 (And.intro s7 (And.intro hcx (And.intro e0 e1)))))))))
   generalize cx.getD 2 undef = v2 at *
   generalize cx.getD 3 undef = v3 at *
   clear K1 s1 s2 s3 s4 s5 s6 s7 s7' s8 hcx e0 e1 hkp
   go_wp2
   go_ret
   obtain ⟨K1, s1, s2, s3, s5, s6, s7, hcx, e0, e1⟩ := uA HI
   obtain ⟨l1, l2, l3, l4⟩ := uA HLO
   have hh := uA HH
   have hkp := uA HKP
   subst hkp
   rw [e0, e1] at hcx
   subst hcx
   have hlt : ∀ x, Y x -> x < w.heap.size := fun x hx => hh.pk.lt x (.inl hx)
   have hO : Only (fun x => x = xb) wo ((wo.setCell ⟨xb, 2, none⟩ (.slice (some ⟨eb2, 0, none⟩) n n)).setCell ⟨xb, 3, none⟩ (.map (some bm2))) := ((Only.refl (fun x => x = xb) wo).setCell ⟨xb, 2, none⟩ _ (fun _ => rfl)).setCell ⟨xb, 3, none⟩ _ (fun _ => rfl)
   have hne1 : xb ≠ eb2 /\ xb ≠ bm2 := by have := hh.im.blk.lt; omega
   have hra : zBF T (6 * k) = T := zLf hh.ok _ (by have := uA HP0; unfold ipgs at this; omega)
   have s5e := s5.er
   have s5p := s5.pm
   rw [hra] at s5e s5p
   refine ⟨rfl, S1, eb2, bm2, ⟨K1.poke hO (fun x q _ => .inr (.inl q)) (fun x q => by rw [q]; exact hh.im.lo.1) (fun x q => ?_), ⟨(s7.set 2 _).set 3 _, s5e.only hO (fun q => hne1.1 q.symm), s5p.only hO (fun q => hne1.2 q.symm), hh.im.lo.1, by omega, by omega⟩, ⟨hh.ny.1, fun q => ?_, fun q => ?_⟩, hh.ety, s1, hh.is, hh.ok, hh.ok, hh.lo, hh.hi, hh.n1, hh.n2⟩, s2, s3, s6.trans hO (fun x _ q r => hh.ny.1 (by rw [<- q]; exact r))⟩
   ·rcases q with q | q | q | q
    ·exact .inl (.inl q)
    ·exact .inl (.inr (.inl q))
    ·exact .inl (.inr (.inr (.inr (.inl q))))
    ·exact .inl (.inr (.inr (.inr (.inr q))))
   ·have := hlt _ q; omega
   ·have := hlt _ q; omega
theorem zIr {w0 w : World} {b jb pb : Nat} {Y : Nat -> Prop} {a n : Nat} {S : PS} {L : List ByteArray} {A : List (Nat × Nat)} {hn : Nat} {Mw Mn : List ByteArray} {T : Nat -> En} (K : PK w0 w b jb pb S Y) (hg : ETy w0) (hs : Seen S L A hn Mw Mn) (hm : IS Mn a n T) (hT : TOk n T) (h19 : 19 <= a) (h128 : a + ipgs n <= 128) (hn1 : 1 <= n) (hn2 : n <= 96) :
  Calls Tryz.prog 73 #[.pointer (some ⟨pb, 0, none⟩), .int .i64 (a : Int), .int .i64 (n : Int)] w fun e w' => ∃ xb, e = .returned (.tuple #[.pointer (some ⟨xb, 0, none⟩), .int .i64 0]) /\ w.heap.size <= xb /\ IRel w0 w b jb pb xb Y a n S L A hn Mw Mn T w' := by
 have h4 := zEt (n := n) (by omega)
 have HCN := uB (fun W => zD0 (n : Int) W)
 rw [decide_eq_true (show (1 : Int) <= (n : Int) by omega), decide_eq_true (show (n : Int) <= 1024 by omega)] at HCN
 have HPO := uB (fun W => zCr n (by omega) W)
 have HSZ := uB (show Calls Tryz.prog 140 #[.pointer (some ⟨pb, 0, none⟩)] w fun e w' => e = .returned (.int .i64 128) /\ w' = w from by
  obtain ⟨bw, bv, ov, Ki⟩ := K
  have := Ki.size
  rw [hs.rst.s, show ((rs L A).last.length : Int) = 128 from by show ((L.length : Nat) : Int) = 128; rw [hs.len]; rfl] at this
  exact this)
 have ha0 : decide ((a : Int) < 0) = false := decide_eq_false (by omega)
 have ha1 : decide ((128 : Int) - (ipgs n : Int) < (a : Int)) = false := decide_eq_false (by omega)
 have HNM := uB (zDr n (by omega) w)
 have HQ := uB (And.intro K (And.intro hg (And.intro hs (And.intro hm (And.intro hT (And.intro h19 (And.intro h128 (And.intro hn1 hn2))))))))
 obtain ⟨P0, hP0⟩ : ∃ q, ipgs n = q := ⟨_, rfl⟩
 rw [hP0] at HPO ha1 h4
 clear K hs hm hg h128 hP0 hn1 h19 hT
 go_enter Tryz.func73, Tryz.ntmps73
 go_wp2_with (first | (go_at_call 95; refine (uA HCN _).mono ?_; rintro e w' ⟨rfl, hw'⟩; subst w') | (go_at_call 60; refine (uA HPO _).mono ?_; rintro e w' ⟨rfl, hw'⟩; subst w') | (go_at_call 140; refine (uA HSZ).mono ?_; rintro e w' ⟨rfl, hw'⟩; subst w'))
 refine (uA HNM).mono ?_
 rintro e x1 ⟨eb, bm, rfl, he1, hm1, E1, P1, hb1⟩
 obtain ⟨xb, hxb⟩ : ∃ q, x1.heap.size = q := ⟨_, rfl⟩
 obtain ⟨x2, hx2⟩ : ∃ q, x1.alloc (.cells (Ics pb a eb bm n) 96) = q := ⟨_, rfl⟩
 obtain ⟨K, hg, hs, hm, hT, h19, h128, hn1, hn2'⟩ := uA HQ
 have hszw : w0.heap.size <= w.heap.size := K.bel.size
 have hb12 : Below x1.heap.size x1 x2 := by rw [<- hx2]; exact (Below.refl _ _).alloc (Nat.le_refl _) _
 have hbw : Below w.heap.size w x2 := hb1.trans (hb12.mono hb1.size)
 have B2 : Blk x2 xb (Ics pb a eb bm n) 96 := by rw [<- hx2, <- hxb]; exact Blk.new x1 _ _
 have hxl := B2.lt
 have hsz1 : w.heap.size <= xb := by rw [<- hxb]; exact hb1.size
 have E2 := E1.below hb12
 have P2 := P1.below hb12
 have hlt : ∀ x, Y x -> x < w.heap.size := fun x hx => K.lt x hx
 have G2 : IG w0 x2 b jb pb xb eb bm Y a n S L A hn Mw Mn T (fun _ => none) :=
  ⟨K.more hbw (fun x hx => by
   rcases hx with q | q | q | q
   ·exact .inl q
   ·rw [q]; exact .inr ⟨hsz1, hxl⟩
   ·rw [q]; exact .inr ⟨he1, E2.lt⟩
   ·rw [q]; exact .inr ⟨hm1, P2.lt⟩), ⟨B2, E2, P2, by omega, by omega, by omega⟩, ⟨fun q => by have := hlt _ q; omega, fun q => by have := hlt _ q; omega, fun q => by have := hlt _ q; omega⟩, hg, hs, hm, hT, TOk.zero n, h19, h128, hn1, hn2'⟩
 have HRL := uB (zHw G2)
 have HBW := uB (And.intro hbw hsz1)
 have HX := uB (show x1.alloc (.cells #[.pointer (some ⟨pb, 0, none⟩), .int .i64 (a : Int), .slice (some ⟨eb, 0, none⟩) n n, .map (some bm)] 96) = x2 from hx2)
 clear he1 hm1 E1 P1 hb1 hx2 K hg hs hm hT h19 h128 hn1 hn2' hszw hb12 hbw B2 hxl hsz1 E2 P2 hlt G2 HQ HNM
 go_wp2_with fail
 rw [uA HX]
 refine (uA HRL).mono ?_
 rintro e x3 ⟨rfl, hR⟩
 have HR := uB hR
 clear hR HRL
 go_wp2
 go_ret2
 obtain ⟨S', eb', bm', k1, k2, k3, k4⟩ := uA HR
 exact ⟨xb, rfl, (uA HBW).2, S', eb', bm', k1, k2, k3, (Only.of_below (P := fun x => ¬ Y x) (uA HBW).1).trans k4 (fun _ _ q => q)⟩
end
section
open Go.RowKit Go.Maps Go.Sort Go.Shelf
def IChg (w0 w : World) (b jb pb xb eb bm : Nat) (Y : Nat -> Prop) (a n : Nat) (S : PS) (L : List ByteArray) (A : List (Nat × Nat)) (hn : Nat) (Mw : List ByteArray) (T : Nat -> En) (p : Nat) (w' : World) : Prop :=
 ∃ S' Mn', IG w0 w' b jb pb xb eb bm Y a n S' L A hn Mw Mn' T T /\ S'.op = true /\ ((∃ t : ByteArray, t.size = 256 /\ S'.tx = zBU ((a + p / 6 : Nat) : Int) t S.tx) /\ S'.keep = S.keep) /\ Only (fun x => ¬ Y x) w w'
theorem zDx {w0 w : World} {b jb pb xb eb bm : Nat} {Y : Nat -> Prop} {a n : Nat} {S : PS} {L : List ByteArray} {A : List (Nat × Nat)} {hn : Nat} {Mw Mn : List ByteArray} {T : Nat -> En} (h : IG w0 w b jb pb xb eb bm Y a n S L A hn Mw Mn T T) (ho : S.op = true) (p : Nat) (hp : p < n) (e : En) (he : EnOk e) (hf : ∀ d c, e = some (d, c) -> ∀ j c', T j = some (d, c') -> j = p) (hr : zAQ S ((a + p / 6 : Nat) : Int) = true) :
  Calls Tryz.prog 50 #[.pointer (some ⟨xb, 0, none⟩), .int .i64 (p : Int), .agg (enC e).toArray] w fun ev w' => ev = .returned (.int .i64 0) /\ IChg w0 w b jb pb xb eb bm Y a n S L A hn Mw (upd T p e) p w' := by
 have hn96 := h.n2
 have hlo := h.lo
 have hhi := h.hi
 have hpk := zLe hp
 have HEL := uB (zA0 e he)
 have HPG := uB (fun W => zHj p (by omega) W)
 have HFO := uB (fun W => zD6 (p / 6) (by omega) W)
 have HSL := uB (fun W => zJL zCv e he W)
 have hbs := zEd T h.ok.ok (p / 6)
 have HSS := uB (fun W => by
  have := zH4 (ibd T (p / 6)) 37 (p % 6) (slB e) (by decide) (by rw [hbs]; decide) (by rw [hbs]; omega) (zC7 e he) W
  rw [zOs T h.ok.ok p e he] at this
  exact this : ∀ W, Calls Tryz.prog 107 #[.string (ibd T (p / 6)), .int .i64 ((37 : Nat) : Int), .int .i64 ((p % 6 : Nat) : Int), .string (slB e)] W fun ev w' => ev = .returned (.tuple #[.string (ibd (upd T p e) (p / 6)), .int .i64 0]) /\ Below W.heap.size W w')
 simp only [Int.cast_ofNat_Int] at HSS
 have HSE := uB (fun W => zC9 (p / 6) (ibd (upd T p e) (p / 6)) W)
 have hbs2 := zEd (upd T p e) (zNc h.ok.ok p he) (p / 6)
 have hts : (pgI (p / 6) (ibd (upd T p e) (p / 6))).size = 256 := zGb _ (by omega) _ hbs2
 obtain ⟨g, hg⟩ : ∃ q, w.heap.size = q := ⟨_, rfl⟩
 obtain ⟨x1, hx1⟩ : ∃ q, w.alloc (.cells (enC e).toArray 104) = q := ⟨_, rfl⟩
 have hb1 : Below w.heap.size w x1 := by rw [<- hx1]; exact (Below.refl _ w).alloc (Nat.le_refl _) _
 have B1 : Blk x1 g (enC e).toArray 104 := by rw [<- hx1, <- hg]; exact Blk.new w _ _
 have G1 : IG w0 x1 b jb pb xb eb bm (fun x => Y x ∨ x = g) a n S L A hn Mw Mn T T := h.more hb1 (fun x hx => by
  rcases hx with q | q
  ·exact .inl q
  ·rw [q, <- hg]; exact .inr ⟨Nat.le_refl _, by rw [hg]; exact B1.lt⟩)
 have HRD := uB (G1.read (p / 6) hpk)
 have HW := uB (And.intro h (And.intro ho (And.intro hp (And.intro he (And.intro hf (And.intro hr (And.intro hts (And.intro hb1 (And.intro B1 (And.intro hg hpk))))))))))
 have e0 : (p : Int) - ((6 * (p / 6) : Nat) : Int) = ((p % 6 : Nat) : Int) := by omega
 have e1 : (a : Int) + ((p / 6 : Nat) : Int) = ((a + p / 6 : Nat) : Int) := by omega
 have hq : a + p / 6 <= 2000 := by omega
 have hpp : p <= 96 := by omega
 have hp6 : p % 6 < 6 := by omega
 have hwq : IntKind.i64.wrap ((a + p / 6 : Nat) : Int) = ((a + p / 6 : Nat) : Int) := zAB _ (by omega) (by omega)
 have hwp : IntKind.i64.wrap ((p % 6 : Nat) : Int) = ((p % 6 : Nat) : Int) := zAB _ (by omega) (by omega)
 have hq6 : 6 * (p / 6) <= 96 := by omega
 obtain ⟨k, hk⟩ : ∃ q, p / 6 = q := ⟨_, rfl⟩
 obtain ⟨ak, hak⟩ : ∃ q, a + p / 6 = q := ⟨_, rfl⟩
 obtain ⟨f6, hf6⟩ : ∃ q, 6 * (p / 6) = q := ⟨_, rfl⟩
 obtain ⟨pm, hpm⟩ : ∃ q, p % 6 = q := ⟨_, rfl⟩
 rw [hf6] at e0 HFO hq6
 rw [hpm] at e0 HSS hp6 hwp
 rw [hak] at e1 hq hwq
 rw [hk] at HPG HFO HSS HSE HRD e1
 have HK := uB (And.intro hk hak)
 clear h ho hp he hf hr hpk hbs hbs2 hts hb1 B1 G1 hk hak hf6 hpm hlo hhi hn96
 go_enter Tryz.func50, Tryz.ntmps50
 go_wp2_with (go_at_call 106; refine (uA HPG _).mono ?_; rintro e w' ⟨rfl, hw'⟩; subst w')
 refine (uA HRD).mono ?_
 rintro ev y1 ⟨rfl, S1, G1, o1, t1, hO1⟩
 have B1 : Blk y1 g (enC e).toArray 104 := (uA HW).2.2.2.2.2.2.2.2.1.only hO1 (fun q => q (.inl (.inr rfl)))
 have R1 := (zAn (zAg _ (uA HW).2.2.2.1) B1).2.1
 have X1 := uB (And.intro G1 (And.intro o1 (And.intro t1 (And.intro hO1 B1))))
 clear G1 o1 t1 hO1 B1 HRD hx1
 have HBD := uB (show ibd T k = ibd T k /\ pgI k (ibd (upd T p e) k) = pgI k (ibd (upd T p e) k) from ⟨rfl, rfl⟩)
 obtain ⟨bd, hbd⟩ : ∃ q, ibd T k = q := ⟨_, rfl⟩
 obtain ⟨bd2, hbd2⟩ : ∃ q, ibd (upd T p e) k = q := ⟨_, rfl⟩
 obtain ⟨sl, hsl⟩ : ∃ q, slB e = q := ⟨_, rfl⟩
 rw [hbd] at HSS ⊢
 rw [hbd2] at HSS HSE
 rw [hsl] at HSS HSL
 obtain ⟨pg, hpg⟩ : ∃ q, pgI k bd2 = q := ⟨_, rfl⟩
 rw [hpg] at HSE
 have HPP := uB (show pgI k (ibd (upd T p e) k) = pg by rw [hbd2]; exact hpg)
 clear hbd hbd2 hsl hpg HBD
 go_wp2
 refine wp_region_held_drew (S := fun w' => w'.rangeAt g 0 (enC e)) (by kernel_rfl) R1 ?_
 intro hS
 refine yL 0 (some 22) (.string bd) rfl (fun w hSw => by go_simp) hS ?_
 refine yL 1 (some 23) (.int .i64 (p : Int)) rfl (fun w hSw => by go_simp) hS ?_
 refine yL 2 (some 24) (.int .i64 (k : Int)) rfl (fun w hSw => by go_simp) hS ?_
 refine yK 5 (some 27) (.agg (enC e).toArray) rfl (yieldsIf_load_mid (by rfl) 104 (.tmp 5) rfl g 0 rfl _ _ (fun w h => h) Tryz.underlying104 rfl (by rw [zAk, uA HEL])) hS ?_
 refine wpAnyH_ready (rs := [3]) (by kernel_rfl) (by simp) ?_
 refine AllReadyH.cons rfl (fun K hK => ?_) AllReadyH.nil
 simp only [lD, lE, lF]
 go_simp
 refine (uA HFO _).mono ?_
 rintro ev w' ⟨rfl, hw'⟩
 subst w'
 refine hK.out _ _ R1 (fun hS => ?_)
 clear hK K
 refine yL 4 (some 26) (.int .i64 (pm : Int)) rfl (fun w hSw => by go_simp) hS ?_
 refine wpAnyH_ready (rs := [6]) (by kernel_rfl) (by simp) ?_
 refine AllReadyH.cons rfl (fun K hK => ?_) AllReadyH.nil
 simp only [lD, lE, lF]
 go_simp
 refine (uA HSL _).mono ?_
 rintro ev y2 ⟨rfl, hb2⟩
 have hb2' : Below y1.heap.size y1 y2 := ((Below.refl _ y1).drew).trans hb2
 have B2 : Blk y2 g (enC e).toArray 104 := (uA X1).2.2.2.2.below hb2' (uA X1).2.2.2.2.lt
 have R2 := (zAn (zAg _ (uA HW).2.2.2.1) B2).2.1
 have X2 := uB (And.intro B2 hb2')
 clear hb2 hb2' B2
 refine hK.out _ _ R2 (fun hS => ?_)
 clear hK K
 refine wpAnyH_ready (rs := [7]) (by kernel_rfl) (by simp) ?_
 refine AllReadyH.cons rfl (fun K hK => ?_) AllReadyH.nil
 simp only [lD, lE, lF]
 go_simp
 refine (uA HSS _).mono ?_
 rintro ev y3 ⟨rfl, hb3⟩
 have B3 : Blk y3 g (enC e).toArray 104 := (uA X2).1.below hb3 (uA X2).1.lt
 have R3 := (zAn (zAg _ (uA HW).2.2.2.1) B3).2.1
 have X3 := uB (And.intro B3 ((uA X2).2.trans (hb3.mono (uA X2).2.size)))
 clear hb3 B3 X2
 refine hK.out _ _ R3 (fun hS => ?_)
 clear hK K
 refine yL 8 (some 21) (.tuple #[.string bd2, .int .i64 0]) rfl (fun w hSw => by go_simp) hS ?_
 refine yL 9 (some 30) (.string bd2) rfl (fun w hSw => by go_simp) hS ?_
 refine yL 10 (some 31) (.int .i64 0) rfl (fun w hSw => by go_simp) hS ?_
 refine yL 11 (some 8) (.string bd2) rfl (fun w hSw => by go_simp) hS ?_
 refine wpAnyH_done (by kernel_rfl) ?_ _
 clear hS R1 R2 R3
 have G3 := (uA X1).1.below (uA X3).2
 have c0 := G3.im.ih.c0
 have c1 := G3.im.ih.c1
 go_wp2
 refine wp_region_held_drew (S := fun w' => w'.cell? ⟨xb, 0, none⟩ = some (.pointer (some ⟨pb, 0, none⟩)) /\ w'.cell? ⟨xb, 1, none⟩ = some (.int .i64 (a : Int))) (by kernel_rfl) ⟨c0, c1⟩ ?_
 intro hS
 refine yL 0 (some 32) (.pointer (some ⟨xb, 0, none⟩)) rfl (fun w hSw => by obtain ⟨q1, q2⟩ := hSw; go_simp) hS ?_
 refine yL 1 (some 33) (.pointer (some ⟨xb, 0, none⟩)) rfl (fun w hSw => by obtain ⟨q1, q2⟩ := hSw; go_simp) hS ?_
 refine yL 2 (some 34) (.pointer (some ⟨xb, 0, none⟩)) rfl (fun w hSw => by obtain ⟨q1, q2⟩ := hSw; go_simp) hS ?_
 refine yL 3 (some 35) (.pointer (some ⟨pb, 0, none⟩)) rfl (fun w hSw => by obtain ⟨q1, q2⟩ := hSw; go_simp) hS ?_
 refine yL 4 (some 36) (.pointer (some ⟨xb, 0, none⟩)) rfl (fun w hSw => by obtain ⟨q1, q2⟩ := hSw; go_simp) hS ?_
 refine yL 5 (some 37) (.pointer (some ⟨xb, 0, none⟩)) rfl (fun w hSw => by obtain ⟨q1, q2⟩ := hSw; go_simp) hS ?_
 refine yL 6 (some 38) (.pointer (some ⟨xb, 1, none⟩)) rfl (fun w hSw => by obtain ⟨q1, q2⟩ := hSw; go_simp) hS ?_
 refine yL 7 (some 39) (.int .i64 (a : Int)) rfl (fun w hSw => by obtain ⟨q1, q2⟩ := hSw; go_simp) hS ?_
 refine yL 8 (some 40) (.int .i64 (k : Int)) rfl (fun w hSw => by obtain ⟨q1, q2⟩ := hSw; go_simp) hS ?_
 refine yL 9 (some 41) (.int .i64 (ak : Int)) rfl (fun w hSw => by obtain ⟨q1, q2⟩ := hSw; go_simp) hS ?_
 refine yL 10 (some 42) (.int .i64 (k : Int)) rfl (fun w hSw => by obtain ⟨q1, q2⟩ := hSw; go_simp) hS ?_
 refine yL 11 (some 43) (.string bd2) rfl (fun w hSw => by obtain ⟨q1, q2⟩ := hSw; go_simp) hS ?_
 refine wpAnyH_ready (rs := [12]) (by kernel_rfl) (by simp) ?_
 refine AllReadyH.cons rfl (fun K hK => ?_) AllReadyH.nil
 simp only [lD, lE, lF]
 go_simp
 refine (uA HSE _).mono ?_
 rintro ev y4 ⟨rfl, hb4⟩
 have hb4' : Below y3.heap.size y3 y4 := ((Below.refl _ y3).drew).trans hb4
 have G4 := G3.below hb4'
 have c0' := G4.im.ih.c0
 have c1' := G4.im.ih.c1
 have B4 : Blk y4 g (enC e).toArray 104 := (uA X3).1.below hb4' (uA X3).1.lt
 have HWR := uB (zDQ G4.pk ((ak : Nat) : Int) pg (by have := (uA HW).2.2.2.2.2.2.1; rw [(uA HK).1, uA HPP] at this; rw [this]; decide))
 have X4 := uB (And.intro G4 (And.intro B4 ((uA X3).2.trans (hb4'.mono (uA X3).2.size))))
 clear hb4 hb4' G4 B4 c0 c1 G3 X3
 refine hK.out _ _ ⟨c0', c1'⟩ (fun hS => ?_)
 clear hK K
 refine wpAnyH_ready (rs := [13]) (by kernel_rfl) (by simp) ?_
 refine AllReadyH.cons rfl (fun K hK => ?_) AllReadyH.nil
 simp only [lD, lE, lF]
 go_simp
 refine (uA HWR).mono ?_
 rintro ev y5 ⟨rfl, K5, hO5⟩
 obtain ⟨G4, B4, L4⟩ := uA X4
 obtain ⟨h, ho, hp, he, hf, hr, hts, hb1, B1, hgw, hpk⟩ := uA HW
 obtain ⟨G1, o1, t1, hO1, _⟩ := uA X1
 have hkk := (uA HK).1
 have hak := (uA HK).2
 rw [hkk] at hts
 rw [hak] at hr
 rw [uA HPP] at hts
 have hlo := h.lo
 have hhi := h.hi
 have hr1 : zAQ S1 ((ak : Nat) : Int) = true := by
  unfold zAQ at hr ⊢
  rw [t1.1]
  exact hr
 obtain ⟨r1, r2, r3, r4⟩ := G4.seen.write G4.srt (o1.trans ho) ak (by omega) (by omega) pg hts hr1
 rw [r1]
 have hM : IS (Mn.set ak pg) a n (upd T p e) := by
  have := G4.is.upd p hp e (by rw [G4.seen.ln]; exact hhi)
  rw [hkk, uA HPP, <- hkk, hak] at this
  exact this
 have hTO : TOk n (upd T p e) := h.ok.upd p hp e he hf
 have G5 : IG w0 y5 b jb pb xb eb bm (fun x => Y x ∨ x = g) a n (zBa S1 ((ak : Nat) : Int) pg) L A hn Mw (Mn.set ak pg) (upd T p e) T := G4.next K5 hO5 r2 hM hTO
 have B5 : Blk y5 g (enC e).toArray 104 := B4.only hO5 (fun q => q (.inl (.inr rfl)))
 have c0'' := G5.im.ih.c0
 have c1'' := G5.im.ih.c1
 have hmem : ∃ t : ByteArray, t.size = 256 /\ (zBa S1 ((ak : Nat) : Int) pg).tx = zBU ((a + p / 6 : Nat) : Int) t S.tx := ⟨pg, hts, by rw [r4, t1.1, hak]⟩
 have hO15 : Only (fun x => ¬ Xf (fun x => Y x ∨ x = g) xb eb bm x) y1 y5 := (Only.of_below (P := fun x => ¬ Xf (fun x => Y x ∨ x = g) xb eb bm x) L4).trans hO5 (fun _ _ q => q)
 have hOw : Only (fun x => ¬ Y x) w y5 := (Only.of_below (P := fun x => ¬ Y x) hb1).trans (hO1.trans hO15 (fun _ _ q => q)) (fun x _ q r => q (.inl (.inl r)))
 have X5 := uB (And.intro G5 (And.intro B5 (And.intro r3 (And.intro hmem (And.intro ((zDP G4.seen.rst ((ak : Nat) : Int) pg).2.2.trans t1.2) hOw)))))
 have HIS := uB (zIn (w := y5.drew) (G5.below ((Below.refl _ y5).drew)).im.mm h.ok (by have := h.n2; omega) p hp e he hf)
 clear K5 hO5 G4 B4 L4 h ho hp he hf hr hts hb1 B1 hgw hpk G1 o1 t1 hO1 hkk hak hlo hhi hr1 r1 r2 r3 r4 hM hTO G5 B5 hmem hO15 hOw HWR X4
 refine hK.out _ _ ⟨c0'', c1''⟩ (fun hS => ?_)
 clear hK K
 refine yL 14 (some 9) (.int .i64 0) rfl (fun w hSw => by obtain ⟨q1, q2⟩ := hSw; go_simp) hS ?_
 refine wpAnyH_done (by kernel_rfl) ?_ _
 clear hS c0' c1' c0'' c1''
 have R5 := (zAn (zAg _ (uA HW).2.2.2.1) (uA X5).2.1).2.1
 go_wp2
 refine wp_region_held_drew (S := fun w' => w'.rangeAt g 0 (enC e)) (by kernel_rfl) R5 ?_
 intro hS
 refine yL 0 (some 49) (.pointer (some ⟨xb, 0, none⟩)) rfl (fun w hSw => by go_simp) hS ?_
 refine yL 1 (some 50) (.pointer (some ⟨xb, 0, none⟩)) rfl (fun w hSw => by go_simp) hS ?_
 refine yL 2 (some 51) (.pointer (some ⟨xb, 2, none⟩)) rfl (fun w hSw => by go_simp) hS ?_
 refine yL 3 (some 52) (.int .i64 (p : Int)) rfl (fun w hSw => by go_simp) hS ?_
 refine yK 4 (some 53) (.agg (enC e).toArray) rfl (yieldsIf_load_mid (by rfl) 104 (.tmp 5) rfl g 0 rfl _ _ (fun w h => h) Tryz.underlying104 rfl (by rw [zAk, uA HEL])) hS ?_
 refine wpAnyH_ready (rs := [5]) (by kernel_rfl) (by simp) ?_
 refine AllReadyH.cons rfl (fun K hK => ?_) AllReadyH.nil
 simp only [lD, lE, lF]
 go_simp
 refine (uA HIS).mono ?_
 rintro ev y6 ⟨rfl, hM6, hO6⟩
 obtain ⟨G5, B5, r3, hmem, hkp, hOw⟩ := uA X5
 have hO6' : Only (fun x => x = eb ∨ x = bm) y5 y6 := (Only.of_below (P := fun x => x = eb ∨ x = bm) ((Below.refl _ y5).drew)).trans hO6 (fun _ _ q => q)
 have hgl : g ≠ eb /\ g ≠ bm := by
  have h1 := (uA HW).1.im.er.lt
  have h2 := (uA HW).1.im.pm.lt
  have h3 := (uA HW).2.2.2.2.2.2.2.2.2.1
  omega
 have B6 : Blk y6 g (enC e).toArray 104 := B5.only hO6' (by rintro (q | q); exact hgl.1 q; exact hgl.2 q)
 have R6 := (zAn (zAg _ (uA HW).2.2.2.1) B6).2.1
 have hny := (uA HW).1.ny
 have hne := G5.im.mm
 have G6 : IG w0 y6 b jb pb xb eb bm Y a n (zBa S1 ((ak : Nat) : Int) pg) L A hn Mw (Mn.set ak pg) (upd T p e) (upd T p e) :=
  ⟨G5.pk.poke hO6' (fun x q _ => by rcases q with q | q; exact .inr (.inr (.inl q)); exact .inr (.inr (.inr q))) (fun x q => by rcases q with q | q <;> rw [q]; exact G5.im.lo.2.1; exact G5.im.lo.2.2) (fun x q => by rcases q with q | q; exact .inl (.inl (.inl q)); exact .inl (.inr q)),
   ⟨G5.im.blk.only hO6' (by rintro (q | q); exact hne.ne q; exact hne.nb q), hM6.er, hM6.pm, G5.im.lo⟩, hny, G5.ety, G5.seen, G5.is, G5.ok, G5.ok, G5.lo, G5.hi, G5.n1, G5.n2⟩
 have Y6 := uB (show IChg w0 w b jb pb xb eb bm Y a n S L A hn Mw (upd T p e) p y6 from ⟨_, _, G6, r3, ⟨hmem, hkp⟩, hOw.trans hO6' (fun x _ q r => by rcases q with q | q <;> rw [q] at r; exact hny.2.1 r; exact hny.2.2 r)⟩)
 clear hM6 hO6 hO6' G5 B5 r3 hmem hkp hOw hgl B6 hny hne G6 R5 X5 HIS
 refine hK.out _ _ R6 (fun hS => ?_)
 clear hK K
 refine wpAnyH_done (by kernel_rfl) ?_ _
 clear hS R6
 go_wp2
 go_ret
 exact ⟨rfl, uA Y6⟩
end
section
open Go.RowKit Go.Maps Go.Sort Go.Shelf
theorem zLw {w0 w : World} {b jb pb xb eb bm : Nat} {Y : Nat -> Prop} {a n : Nat} {S : PS} {L : List ByteArray} {A : List (Nat × Nat)} {hn : Nat} {Mw Mn : List ByteArray} {T : Nat -> En} (h : IG w0 w b jb pb xb eb bm Y a n S L A hn Mw Mn T T) (ho : S.op = true) (i : Nat) (hi : i < n) (d0 : ByteArray) (c0 : Nat) (hT : T i = some (d0, c0)) (hr : zAQ S ((a + i / 6 : Nat) : Int) = true) :
  Calls Tryz.prog 128 #[.pointer (some ⟨xb, 0, none⟩), .int .i64 (i : Int)] w fun e w' => e = .returned (.int .i64 0) /\ IChg w0 w b jb pb xb eb bm Y a n S L A hn Mw (upd T i none) i w' := by
 have hn96 := h.n2
 have hok := h.ok.ok i
 rw [hT] at hok
 have HHA := uB (zC5 h.im.mm (i : Int))
 rw [decide_eq_true (show (0 : Int) <= (i : Int) by omega), decide_eq_true (show (i : Int) < (n : Int) by omega)] at HHA
 have HCH := uB h.changeable
 rw [ho] at HCH
 have HWL := uB (zA0 (some (d0, c0)) hok)
 have HNO := uB (fun W => zAD (enD (some (d0, c0))) (zAg _ hok) (enT (some (d0, c0)) : Int) W)
 rw [show (((enT (some (d0, c0)) : Nat) : Int) == 0) = false by have := (hok d0 c0 rfl).2.1; simp [enT]; omega] at HNO
 have HW := uB (And.intro h (And.intro ho (And.intro hi hT)))
 have HR := uB hr
 have i0 : (0 : Int) <= (i : Int) := by omega
 have i1 : (i : Int) < (n : Int) := by omega
 clear h ho hi hT hok hr
 go_enter Tryz.func128, Tryz.ntmps128
 go_wp2_with (go_at_call 47; refine (uA HHA).mono ?_; rintro e w' ⟨rfl, hw'⟩; subst w')
 refine (uA HCH).mono ?_
 rintro e y1 ⟨rfl, G1, hO1⟩
 have c2 := G1.im.mm.c0
 have HRG := uB (G1.im.mm.er.range i (uA HW).2.2.1)
 rw [(uA HW).2.2.2] at HRG
 have X1 := uB (And.intro G1 hO1)
 clear G1 hO1 HCH HHA
 go_wp2_with (refine wpList_load_mid rfl 104 (.tmp 20) rfl eb (i * 33) (by rfl) _ _ (uA HRG) Tryz.underlying104 rfl (by rw [zAk]; exact congrArg some (uA HWL).symm) ?_)
 refine (uA HNO _).mono ?_
 rintro e y2 ⟨rfl, hb2⟩
 have G2 := (uA X1).1.below hb2
 have hO2 : Only (fun x => ¬ Xf Y xb eb bm x) w y2 := (uA X1).2.trans (Only.of_below (P := fun x => ¬ Xf Y xb eb bm x) hb2) (fun _ _ q => q)
 have X2 := uB (And.intro G2 hO2)
 clear hb2 hO2 HNO HRG X1 c2
 have HIC := uB (zDx G2 (uA HW).2.1 i (uA HW).2.2.1 none (fun _ _ h => by cases h) (fun _ _ h => by cases h) (uA HR))
 rw [zCA] at HIC
 clear G2
 go_wp2_with fail
 refine (uA HIC).mono ?_
 rintro e y3 ⟨rfl, S6, Mn6, k1, k2, k3, k4⟩
 have Y6 := uB (show IChg w0 w b jb pb xb eb bm Y a n S L A hn Mw (upd T i none) i y3 from ⟨S6, Mn6, k1, k2, k3, ((uA X2).2.mono (fun x _ q r => q (.inl r))).trans k4 (fun _ _ q => q)⟩)
 clear k1 k2 k3 k4 HIC
 go_wp2
 go_ret
 exact ⟨rfl, uA Y6⟩
theorem zKY {w0 w : World} {xb pb a eb bm n : Nat} {T : Nat -> En} (h : IM w0 w xb pb a eb bm n T) (hTO : TOk n T) (hn : n <= 1024) (i : Nat) (hi : i < n) (d : ByteArray) (c : Nat) (hT : T i = some (d, c)) :
  Calls Tryz.prog 123 #[.pointer (some ⟨xb, 0, none⟩), .int .i64 (i : Int)] w fun e w' => e = .returned (.tuple #[.agg #[.int .i64 (i : Int), .string d, .int .i64 (c : Int)], .int .i64 0]) /\ Below w.heap.size w w' := by
 have hok := hTO.ok i
 rw [hT] at hok
 obtain ⟨g, hg⟩ : ∃ q, w.heap.size = q := ⟨_, rfl⟩
 obtain ⟨x1, hx1⟩ : ∃ q, w.alloc (.cells #[.int .i64 0, .string ⟨#[]⟩, .int .i64 0] 40) = q := ⟨_, rfl⟩
 have hb1 : Below g w x1 := by rw [<- hx1, <- hg]; exact (Below.refl _ w).alloc (Nat.le_refl _) _
 have B1 : Blk x1 g #[.int .i64 0, .string ⟨#[]⟩, .int .i64 0] 40 := by rw [<- hx1, <- hg]; exact Blk.new w _ _
 have M1 := h.below (by rw [hg]; exact hb1)
 have HHA := uB (zC5 M1.mm (i : Int))
 rw [decide_eq_true (show (0 : Int) <= (i : Int) by omega), decide_eq_true (show (i : Int) < (n : Int) by omega)] at HHA
 have HWL := uB (zA0 (some (d, c)) hok)
 have HNO := uB (fun W => zAD (enD (some (d, c))) (zAg _ hok) (enT (some (d, c)) : Int) W)
 rw [show (((enT (some (d, c)) : Nat) : Int) == 0) = false by have := (hok d c rfl).2.1; simp [enT]; omega] at HNO
 have c2 := M1.mm.c0
 have HRG := uB (M1.mm.er.range i hi)
 rw [hT] at HRG
 have HW := uB (And.intro hTO (And.intro hn (And.intro hi (And.intro hT (And.intro hb1 (And.intro B1 M1))))))
 have i0 : (0 : Int) <= (i : Int) := by omega
 have i1 : (i : Int) < (n : Int) := by omega
 clear h hTO hi hT hok hb1 B1 M1
 rw [hg]
 go_enter Tryz.func123, Tryz.ntmps123
 go_wp2_with (first | (go_at_call 47; refine (uA HHA).mono ?_; rintro e w' ⟨rfl, hw'⟩; subst w') | refine wpList_load_mid rfl 104 (.tmp 19) rfl eb (i * 33) (by rfl) _ _ (uA HRG) Tryz.underlying104 rfl (by rw [zAk]; exact congrArg some (uA HWL).symm) ?_)
 refine (uA HNO _).mono ?_
 rintro e y2 ⟨rfl, hb2⟩
 obtain ⟨hTO, hn', hi, hT, hb1, B1, M1⟩ := uA HW
 have B2 := B1.below hb2 B1.lt
 have hb12 : Below g w y2 := hb1.trans (hb2.mono (by rw [<- hg]; exact hb1.size))
 have q0 : y2.cell? ⟨g, 0, none⟩ = some (.int .i64 0) := B2.cell 0
 have q1 : y2.cell? ⟨g, 1, none⟩ = some (.string ⟨#[]⟩) := B2.cell 1
 have q2 : y2.cell? ⟨g, 2, none⟩ = some (.int .i64 0) := B2.cell 2
 have p0 := B2.frozen 0
 have p1 := B2.frozen 1
 have p2 := B2.frozen 2
 have M2 := M1.below hb2
 have HTE := uB (zGC M2.mm hTO i hi hn' d c hT)
 have X2 := uB (And.intro B2 hb12)
 clear hTO hn' hi hT hb1 B1 M1 B2 hb2 hb12 M2 HNO HRG HHA q0 q1 q2 p0 p1 p2
 go_wp2_with fail
 refine (uA HTE).mono ?_
 rintro e y3 ⟨rfl, hb3⟩
 have B3 := (uA X2).1.below hb3 (uA X2).1.lt
 have hb13 : Below g w y3 := (uA X2).2.trans (hb3.mono (by rw [<- hg]; exact (uA X2).2.size))
 have q0 : y3.cell? ⟨g, 0, none⟩ = some (.int .i64 0) := B3.cell 0
 have q1 : y3.cell? ⟨g, 1, none⟩ = some (.string ⟨#[]⟩) := B3.cell 1
 have q2 : y3.cell? ⟨g, 2, none⟩ = some (.int .i64 0) := B3.cell 2
 have p0 := B3.frozen 0
 have p1 := B3.frozen 1
 have p2 := B3.frozen 2
 have X3 := uB (And.intro B3 hb13)
 clear hb3 B3 hb13 HTE
 go_wp2
 have B4 := (((uA X3).1.set 0 (.int .i64 (i : Int))).set 1 (.string d)).set 2 (.int .i64 (c : Int))
 have hld := zBd 40 _ B4 Tryz.underlying40 rfl (by kernel_rfl)
 refine bodyPost_ret (v := .tuple #[.agg #[.int .i64 (i : Int), .string d, .int .i64 (c : Int)], .int .i64 0]) (zAS (p := 4) (q := 5) (ty := 40) rfl _ _ _ ⟨g, 0, none⟩ rfl _ hld) rfl ⟨rfl, (((uA X3).2.setCell (p := ⟨g, 0, none⟩) (Nat.le_refl _) _).setCell (p := ⟨g, 1, none⟩) (Nat.le_refl _) _).setCell (p := ⟨g, 2, none⟩) (Nat.le_refl _) _⟩
theorem zFv {w0 w : World} {xb pb a eb bm n : Nat} {T : Nat -> En} (h : IM w0 w xb pb a eb bm n T) (d : ByteArray) (hd : d.size = 32) (i : Int) (is : Bool)
  (hl : ∀ W, PM W bm n T -> (Instr.lookup 92 (.map (some bm)) (.agg (kC d).toArray) true).run Tryz.prog W = .ok (.tuple #[.int .i64 i, .bool is]) W) :
  Calls Tryz.prog 13 #[.pointer (some ⟨xb, 0, none⟩), .string d] w fun e w' => e = .returned (.tuple #[.int .i64 i, .bool is]) /\ Below w.heap.size w w' := by
 have HDG := uB (fun W => zB6 d W)
 rw [show ((d.size : Int) == 32) = true by rw [hd]; rfl] at HDG
 have HKO := uB (fun W => zDC d hd W)
 have HH := uB (And.intro h (And.intro hd hl))
 clear h hd hl
 go_enter Tryz.func13, Tryz.ntmps13
 go_wp2_with (go_at_call 44; refine (uA HDG _).mono ?_; rintro e w' ⟨rfl, hw'⟩; subst w')
 refine wp_region_held_drew (S := fun _ => True) (by kernel_rfl) trivial ?_
 intro hS
 refine yL 0 (some 9) (.pointer (some ⟨xb, 0, none⟩)) rfl (fun w hSw => by go_simp) hS ?_
 refine yL 1 (some 10) (.pointer (some ⟨xb, 0, none⟩)) rfl (fun w hSw => by go_simp) hS ?_
 refine yL 2 (some 11) (.pointer (some ⟨xb, 2, none⟩)) rfl (fun w hSw => by go_simp) hS ?_
 refine yL 3 (some 12) (.string d) rfl (fun w hSw => by go_simp) hS ?_
 refine wpAnyH_ready (rs := [4]) (by kernel_rfl) (by simp) ?_
 refine AllReadyH.cons rfl (fun K hK => ?_) AllReadyH.nil
 simp only [lD, lE, lF]
 go_simp
 refine (uA HKO _).mono ?_
 rintro e y1 ⟨rfl, hb1⟩
 have hb1' : Below w.heap.size w y1 := ((Below.refl _ w).drew).trans hb1
 have HFI := uB (zBX ((uA HH).1.below hb1').mm d (uA HH).2.1 i is (uA HH).2.2)
 have X1 := uB hb1'
 clear hb1 hb1'
 refine hK.out _ _ trivial (fun hS => ?_)
 clear hK K
 refine wpAnyH_ready (rs := [5]) (by kernel_rfl) (by simp) ?_
 refine AllReadyH.cons rfl (fun K hK => ?_) AllReadyH.nil
 simp only [lD, lE, lF]
 go_simp
 refine (uA HFI).mono ?_
 rintro e y2 ⟨rfl, hb2⟩
 have X2 := uB ((uA X1).trans (hb2.mono (uA X1).size))
 clear hb2 HFI
 refine hK.out _ _ trivial (fun hS => ?_)
 clear hK K
 refine yL 6 (some 15) (.int .i64 i) rfl (fun w hSw => by go_simp) hS ?_
 refine yL 7 (some 16) (.bool is) rfl (fun w hSw => by go_simp) hS ?_
 refine yL 8 (some 4) (.int .i64 i) rfl (fun w hSw => by go_simp) hS ?_
 refine yL 9 (some 5) (.bool is) rfl (fun w hSw => by go_simp) hS ?_
 refine wpAnyH_done (by kernel_rfl) ?_ _
 clear hS
 go_wp2
 go_ret2
 exact ⟨rfl, uA X2⟩
end
end Go.Proofs.YtdpnbemagiekoaaGreatDoor
