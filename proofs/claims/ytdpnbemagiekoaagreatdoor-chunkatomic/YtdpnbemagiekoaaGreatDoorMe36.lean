import Derived.Test.YtdpnbemagiekoaaGreatDoorMe35
namespace Go.Proofs.YtdpnbemagiekoaaGreatDoor
section
open Go.RowKit Go.Maps Go.Sort Go.Shelf
theorem JK.old {w0 w : World} {b jb : Nat} {s : DSt} {nx : Nat} {lost : Bool} {Y Z : Nat -> Prop} (h : JK w0 w b jb s nx lost Y) (hz : ∀ x, Z x -> Y x ∨ x < w0.heap.size) : JK w0 w b jb s nx lost Z := by
 obtain ⟨v, h1, h2, h3, h4, h5, h6, h7⟩ := h
 refine ⟨v, h1, h2, h3, h4, h5, h6, fun x hx => ?_⟩
 rcases hz x hx with q | q
 ·exact h7 x q
 ·refine ⟨fun r => ?_, fun r => ?_, ?_⟩
  ·have := (h1.fd x r).1; omega
  ·omega
  ·have := h5.size; omega
theorem PK.old {w0 w : World} {b jb pb : Nat} {S : PS} {X Y : Nat -> Prop} (h : PK w0 w b jb pb S X) (hy : ∀ x, Y x -> X x ∨ x < w0.heap.size) : PK w0 w b jb pb S Y := by
 obtain ⟨bw, bv, ov, K⟩ := h
 refine ⟨bw, bv, ov, K.jk.old (fun x hx => ?_), K.blk, K.tx, K.hn, K.ne, K.lo1, K.lo2, K.lo3, fun x hx q => ?_, K.hk, K.kp, K.t16, K.tok⟩
 ·rcases hx with q | q
  ·exact (hy x q).imp_left .inl
  ·exact .inl (.inr q)
 ·rcases hy x hx with r | r
  ·exact K.xn x r q
  ·rcases q with q | q | q | q
   ·have := K.lo1; omega
   ·have := K.lo2; omega
   ·have := K.lo3; omega
   ·have := (zEu K.hn.ord q).2; omega
theorem CSz.old {w0 w : World} {b jb pb xb mb sb gb : Nat} {Z : Nat -> Prop} {n z : Nat} {op : Bool} {L : List ByteArray} {A : List (Nat × Nat)} {hn : Nat} {Tw T U : Nat -> En} {Bw B : Nat -> Bool} {Dw D : Nat -> ByteArray} (h : CSz w0 w b jb pb xb mb sb gb Z n z op L A hn Tw T U Bw B Dw D) {Z' : Nat -> Prop} (hz : ∀ x, Z' x -> Z x ∨ x < w0.heap.size) : CSz w0 w b jb pb xb mb sb gb Z' n z op L A hn Tw T U Bw B Dw D := by
 obtain ⟨S, eb, bm, Mw, Mn, h1, ⟨h2, h2k, h2t⟩, h3, h4, h5⟩ := h
 have hx : ∀ x, Yz mb sb gb Z' x -> Yz mb sb gb Z x ∨ x < w0.heap.size := fun x q => by
  rcases q with q | q | q | q
  ·exact .inl (.inl q)
  ·exact .inl (.inr (.inl q))
  ·exact .inl (.inr (.inr (.inl q)))
  ·exact (hz x q).imp_left (fun r => .inr (.inr (.inr r)))
 have hny : ∀ y, ¬ Yz mb sb gb Z y -> w0.heap.size <= y -> ¬ Yz mb sb gb Z' y := fun y h1 h2 q => by
  rcases hx y q with r | r
  ·exact h1 r
  ·omega
 exact ⟨S, eb, bm, Mw, Mn, ⟨⟨h1.ig.pk.old (fun x q => by
   rcases q with q | q
   ·exact (hx x q).imp_left .inl
   ·exact .inl (.inr q)), h1.ig.im, ⟨hny _ h1.ig.ny.1 h1.ig.im.lo.1, hny _ h1.ig.ny.2.1 h1.ig.im.lo.2.1, hny _ h1.ig.ny.2.2 h1.ig.im.lo.2.2⟩, h1.ig.ety, h1.ig.seen, h1.ig.is, h1.ig.ok, h1.ig.oku, h1.ig.lo, h1.ig.hi, h1.ig.n1, h1.ig.n2⟩, h1.mp, h1.ms, .inl rfl, .inr (.inl rfl), h1.st, h1.n24⟩, ⟨h2, h2k, h2t⟩, h3, h4, h5⟩
theorem CSz.poke {w0 w : World} {b jb pb xb mb sb gb : Nat} {Z : Nat -> Prop} {n z : Nat} {op : Bool} {L : List ByteArray} {A : List (Nat × Nat)} {hn : Nat} {Tw T U : Nat -> En} {Bw B : Nat -> Bool} {Dw D : Nat -> ByteArray} (h : CSz w0 w b jb pb xb mb sb gb Z n z op L A hn Tw T U Bw B Dw D) {w' : World} {g : Nat} (ho : Only (fun x => x = g) w w') (hz : Z g) (hlo : w0.heap.size <= g) (hne : g ≠ mb /\ g ≠ sb /\ g ≠ gb) : CSz w0 w' b jb pb xb mb sb gb Z n z op L A hn Tw T U Bw B Dw D := by
 obtain ⟨S, eb, bm, Mw, Mn, h1, ⟨h2, h2k, h2t⟩, h3, h4, h5⟩ := h
 exact ⟨S, eb, bm, Mw, Mn, ⟨h1.ig.poke ho (fun x q _ => by rw [q]; exact .inr (.inr (.inr hz))) (fun x q => by rw [q]; exact hlo) (fun x q => .inl q), h1.mp.only ho (fun q => hne.1 q.symm), h1.ms, h1.ym, h1.ys, h1.st.only ho (fun q => hne.2.1 q.symm), h1.n24⟩, ⟨h2, h2k, h2t⟩, h3, h4, h5.only ho (fun q => hne.2.2 q.symm)⟩
theorem CSz.lasts {w0 w : World} {b jb pb xb mb sb gb : Nat} {Z : Nat -> Prop} {n z : Nat} {op : Bool} {L : List ByteArray} {A : List (Nat × Nat)} {hn : Nat} {Tw T U : Nat -> En} {Bw B : Nat -> Bool} {Dw D : Nat -> ByteArray} (h : CSz w0 w b jb pb xb mb sb gb Z n z op L A hn Tw T U Bw B Dw D) : (IS L 20 n Tw /\ TOk n Tw /\ MS L 19 n Bw /\ ∀ i, i < n -> L.getD (30 + i) ByteArray.empty = Dw i) /\ L.length = 128 /\ (∀ t ∈ L, t.size = 256) /\ L.getD 1 ByteArray.empty = zAq hn [] /\ hn < 4294967296 := by
 obtain ⟨S, eb, bm, Mw, Mn, h1, ⟨h2, h2k, h2t⟩, h3, h4, h5⟩ := h
 have hn24 := h1.n24
 have e : ∀ k, 19 <= k -> k < 128 -> L.getD k ByteArray.empty = Mw.getD k ByteArray.empty := fun k q1 q2 => h1.ig.seen.was k q1 (by rw [h1.ig.seen.len]; omega)
 exact ⟨⟨zJv h3.1 hn24 (fun k q1 q2 => e k (by omega) (by omega)), h3.2.1, zHk h3.2.2 hn24 (e 19 (by omega) (by omega)), fun i hi => (e (30 + i) (by omega) (by omega)).trans (h4.1 i hi)⟩, h1.ig.seen.len, h1.ig.seen.siz, h1.ig.seen.hd, h1.ig.seen.hn⟩
theorem CSz.arm {w0 w : World} {b jb pb xb mb sb gb : Nat} {Z : Nat -> Prop} {n z : Nat} {L : List ByteArray} {A : List (Nat × Nat)} {hn : Nat} {Tw T U : Nat -> En} {Bw B : Nat -> Bool} {Dw D : Nat -> ByteArray} (h : CSz w0 w b jb pb xb mb sb gb Z n z true L A hn Tw T U Bw B Dw D) (f : Nat) (hf : f <= 1000) :
  Calls Tryz.prog 30 #[.pointer (some ⟨b, 0, none⟩), .int .i64 (f : Int)] w fun e w' => e = .returned (.int .i64 0) /\ (∃ tx, ArmI w0 w' b jb pb (Yz mb sb gb Z) 20 n hn L A f tx Tw T /\ GoodL tx /\ MS (layP L (natW tx)) 19 n B /\ ∀ i, i < n -> (layP L (natW tx)).getD (30 + i) ByteArray.empty = D i) /\ Only (fun x => ¬ Yz mb sb gb Z x) w w' := by
 have hlast := h.lasts
 obtain ⟨S, eb, bm, Mw, Mn, h1, ⟨h2, h2k, h2t⟩, h3, h4, h5⟩ := h
 have hn24 := h1.n24
 have hs := h1.ig.seen.rst.s
 have hc := armP h1.ig.pk (f : Int) (by omega) (by rw [hs, (zFQ L A f).2]; rfl)
 rw [hs, (zFQ L A f).1, (zFQ L A f).2] at hc
 refine hc.mono ?_
 rintro e w' ⟨rfl, K, hO⟩
 have hlay : ∀ k, 19 <= k -> k < 128 -> (layP L (natW S.tx)).getD k ByteArray.empty = Mn.getD k ByteArray.empty := fun k q1 q2 => by
  rw [zJ6 h1.bg.srt (fun p hp => (h1.bg.tok p hp).1) L k (by rw [h1.ig.seen.len]; omega), h1.ig.seen.now k q1 q2, h1.ig.seen.was k q1 (by rw [h1.ig.seen.len]; omega)]
 refine ⟨rfl, ⟨S.tx, ⟨_, PK.more K (Below.refl _ _) (fun x q => .inl (.inl q)), rfl, h1.ig.seen.rst.nx, h1.ig.seen.rst.jl, h1.ig.seen.rst.lost, h2, rfl, zFY h1.bg.srt h1.bg.t16 h1.bg.tok, ⟨hlast.2.1, hlast.2.2.1, hlast.2.2.2.1, fun k _ _ => rfl⟩, hlast.1.1, ?_⟩, zFY h1.bg.srt h1.bg.t16 h1.bg.tok, zHk h1.ms hn24 (hlay 19 (by omega) (by omega)), fun i hi => (hlay (30 + i) (by omega) (by omega)).trans (h4.2 i hi)⟩, hO.mono (fun x _ q r => q (.inl r))⟩
 exact zJv h1.ig.is hn24 (fun k q1 q2 => hlay k (by omega) (by omega))
def zPq (w0 : World) (b n : Nat) (R : (Nat -> En) -> (Nat -> Bool) -> (Nat -> ByteArray) -> Prop) (e : Ending) (w' : World) : Prop :=
 ∃ jb pb S L A n0 T B D, e = .returned (.tuple #[.pointer (some ⟨pb, 0, none⟩), .int .i64 0]) /\ PK w0 w' b jb pb S (fun _ => False) /\ Seen S L A n0 L L /\ S.op = false /\ (S.tx = [] /\ S.keep = 4) /\ IS L 20 n T /\ TOk n T /\ MS L 19 n B /\ (∀ i, i < n -> L.getD (30 + i) ByteArray.empty = D i) /\ R T B D
theorem zM5 {w0 w : World} {b : Nat} {v : DV} {ha hb : Nat} {O I : List ByteArray} {l : List Wr1} {must : Bool} {n : Nat} {Tw T : Nat -> En} {Bw B : Nat -> Bool} {Dw D : Nat -> ByteArray} (h : Dk w w0.heap.size b v (rs I [])) (h0 : Below w0.heap.size w0 w) (hg : ETy w) (hA : StAv ha hb O l must I) (hl : GoodL l) (hO : O.length = 128) (hha : ha < 4294967296) (hhb : hb < 4294967296) (hn : n <= 24) (hw : IS O 20 n Tw /\ TOk n Tw /\ MS O 19 n Bw /\ ∀ i, i < n -> O.getD (30 + i) ByteArray.empty = Dw i) (ht : IS (layP O (natW l)) 20 n T /\ TOk n T /\ MS (layP O (natW l)) 19 n B /\ ∀ i, i < n -> (layP O (natW l)).getD (30 + i) ByteArray.empty = D i) :
  Calls Tryz.prog 71 #[.pointer (some ⟨b, 0, none⟩), .int .i64 4] w (zPq w0 b n (fun T' B' D' => (T' = T /\ B' = B /\ D' = D) ∨ ((T' = Tw /\ B' = Bw /\ D' = Dw) /\ must = false))) := by
 refine (zHf w b 4 (by decide) (fun jp ag er w1 => er = 0 /\ ∃ jb I A n, jp = some ⟨jb, 0, none⟩ /\ JK w0 w1 b jb (rs I A) ((n + 1) % 4294967296) false (fun _ => False) /\ n < 4294967296 /\ I.length = 128 /\ (∀ t ∈ I, t.size = 256) /\ I.getD 1 ByteArray.empty = zAq n [] /\ ((zF9 I O /\ must = false) ∨ zF9 I (layP O (natW l)))) ((zO6 h h0 hg hA hl hO hha hhb).mono (fun e w1 q => by
  obtain ⟨jb, ag, I', A', n, q1, q2⟩ := q
  exact ⟨_, ag, 0, q1, rfl, jb, I', A', n, rfl, q2⟩))).mono ?_
 rintro e w' ⟨jp, ag, er, w1, ⟨rfl, jb, I', A', n', rfl, q1, q2, q3, q4, q5, q6⟩, r | ⟨_, pb, bw, bv, rfl, hP⟩⟩
 ·exact absurd rfl r.1
 ·have hS : Seen (zPA I' A' ((n' + 1) % 4294967296) 4) I' A' n' I' I' := ⟨⟨rfl, rfl, rfl, rfl⟩, q3, q4, q5, q2, fun k _ _ => rfl, q3, q3, fun k _ _ => rfl, fun _ => rfl, fun p hp => by cases hp⟩
  rcases q6 with ⟨r1, r2⟩ | r1
  ·have e : ∀ k, 19 <= k -> k < 128 -> I'.getD k ByteArray.empty = O.getD k ByteArray.empty := fun k k1 k2 => r1 k k1 (by omega)
   exact ⟨jb, pb, _, I', A', n', Tw, Bw, Dw, rfl, POk.pk q1 (by decide) hP, hS, rfl, ⟨rfl, rfl⟩, zJv hw.1 hn (fun k k1 k2 => e k (by omega) (by omega)), hw.2.1, zHk hw.2.2.1 hn (e 19 (by omega) (by omega)), fun i hi => (e (30 + i) (by omega) (by omega)).trans (hw.2.2.2 i hi), .inr ⟨⟨rfl, rfl, rfl⟩, r2⟩⟩
  ·have e : ∀ k, 19 <= k -> k < 128 -> I'.getD k ByteArray.empty = (layP O (natW l)).getD k ByteArray.empty := fun k k1 k2 => r1 k k1 (by omega)
   exact ⟨jb, pb, _, I', A', n', T, B, D, rfl, POk.pk q1 (by decide) hP, hS, rfl, ⟨rfl, rfl⟩, zJv ht.1 hn (fun k k1 k2 => e k (by omega) (by omega)), ht.2.1, zHk ht.2.2.1 hn (e 19 (by omega) (by omega)), fun i hi => (e (30 + i) (by omega) (by omega)).trans (ht.2.2.2 i hi), .inl ⟨rfl, rfl, rfl⟩⟩
set_option maxRecDepth 100000 in
set_option maxHeartbeats 2000000 in
theorem zE9 {w0 w : World} {b n : Nat} {R : (Nat -> En) -> (Nat -> Bool) -> (Nat -> ByteArray) -> Prop} (HO : Hid (Calls Tryz.prog 71 #[.pointer (some ⟨b, 0, none⟩), .int .i64 4] w (zPq w0 b n R))) (hg : ETy w0) (hn1 : 1 <= n) (hn2 : n <= 24) :
  Calls Tryz.prog 28 #[.pointer (some ⟨b, 0, none⟩), .int .i64 (n : Int)] w fun e w' => ∃ jb pb xb mb sb gb L A n0 T B D, e = .returned (.pointer (some ⟨gb, 0, none⟩)) /\ CSz w0 w' b jb pb xb mb sb gb (fun _ => False) n 0 false L A n0 T T T B B D D /\ R T B D := by
 have HQ0 := uB (And.intro hg (And.intro hn1 hn2))
 clear hg hn1 hn2
 go_enter Tryz.func28, Tryz.ntmps28
 go_wp2_with fail
 refine (uA HO).mono ?_
 rintro e x1 ⟨jb, pb, S, L, A, n0, T, B, D, rfl, K, hs, ho, ⟨ht, hk⟩, hi, hT, hm, hD, hR⟩
 obtain ⟨hg, hn1, hn2⟩ := uA HQ0
 have HQ := uB (And.intro hg (And.intro hi (And.intro hT (And.intro hm (And.intro hn1 (And.intro hn2 (And.intro hD hR)))))))
 have HM := uB (zIg K hg hs hm (by decide) (by unfold pgs; omega) hn1 (by omega))
 simp only [Int.cast_ofNat_Int] at HM
 have X1 := uB (And.intro ho (And.intro ht hk))
 clear K hs ho ht hk hg hi hT hm hn1 hn2 hD hR HO
 go_wp2_with fail
 refine (uA HM).mono ?_
 rintro e x2 ⟨mb, rfl, hlo, S2, G2, o2, t2, O2⟩
 obtain ⟨hg, hi, hT, hm, hn1, hn2, hD, hR⟩ := uA HQ
 have HI := uB (zIr G2.pk hg G2.seen hi hT (by decide) (by unfold ipgs; omega) hn1 (by omega))
 simp only [Int.cast_ofNat_Int] at HI
 have X2 := uB (And.intro G2 (And.intro o2 t2))
 clear hlo G2 o2 t2 O2 hg hi hT hm hn1 hn2 hD hR HM
 go_wp2_with fail
 refine (uA HI).mono ?_
 rintro e x3 ⟨xb, rfl, _, S3, eb, bm, G3, o3, t3, O3⟩
 have HC := uB (zGF pb mb xb x3)
 have X3 := uB (And.intro G3 (And.intro o3 (And.intro t3 O3)))
 clear G3 o3 t3 O3 HI
 go_wp2_with fail
 refine (uA HC).mono ?_
 rintro e x4 ⟨rfl, hx4⟩
 obtain ⟨sb, hsb⟩ : ∃ q, x3.heap.size = q := ⟨_, rfl⟩
 rw [hsb]
 have hb4 : Below x3.heap.size x3 x4 := by rw [hx4]; exact (Below.refl _ x3).alloc (Nat.le_refl _) _
 have B4 : Blk x4 sb (Scs pb mb xb) 125 := by rw [hx4, <- hsb]; exact Blk.new x3 _ _
 obtain ⟨gb, hgb⟩ : ∃ q, x4.heap.size = q := ⟨_, rfl⟩
 obtain ⟨x5, hx5⟩ : ∃ q, x4.alloc (.cells (Pcl b pb mb xb sb) 32) = q := ⟨_, rfl⟩
 have hb5 : Below x4.heap.size x4 x5 := by rw [<- hx5]; exact (Below.refl _ x4).alloc (Nat.le_refl _) _
 have B5 : Blk x5 gb (Pcl b pb mb xb sb) 32 := by rw [<- hx5, <- hgb]; exact Blk.new x4 _ _
 have C5 : Blk x5 sb (Scs pb mb xb) 125 := B4.below hb5 B4.lt
 have hb35 : Below x3.heap.size x3 x5 := hb4.trans (hb5.mono hb4.size)
 have HF := uB (show CSz w0 x5 b jb pb xb mb sb gb (fun _ => False) n 0 false L A n0 T T T B B D D /\ R T B D from by
  obtain ⟨G3, o3, t3, O3⟩ := uA X3
  obtain ⟨G2, o2, t2⟩ := uA X2
  obtain ⟨ho, ht, hk⟩ := uA X1
  obtain ⟨hg, hi, hT, hm, hn1, hn2, hD, hR⟩ := uA HQ
  have hl5 := B5.lt
  have hl4 := C5.lt
  exact ⟨⟨S3, eb, bm, L, L, ⟨G3.more (Z := Yz mb sb gb (fun _ => False)) hb35 (fun x q => by
    rcases q with q | q | q | q
    ·exact .inl (.inr q)
    ·exact .inr (by rw [q]; exact ⟨by omega, hl4⟩)
    ·exact .inr (by rw [q]; exact ⟨by have := hb4.size; omega, hl5⟩)
    ·exact absurd q (fun q => q)), (G2.mp.only O3 (fun q => q (.inr rfl))).below hb35, hm, .inl rfl, .inr (.inl rfl), C5, hn2⟩,
   ⟨o3.trans (o2.trans ho), t3.2.trans (t2.2.trans hk), [], Nat.le_refl _, fun p hp => by rw [t3.1, t2.1, ht] at hp; cases hp⟩, ⟨hi, hT, hm⟩, ⟨hD, hD⟩, B5⟩, hR⟩)
 have hx5' : x4.alloc (.cells #[.pointer (some ⟨b, 0, none⟩), .pointer (some ⟨pb, 0, none⟩), .pointer (some ⟨mb, 0, none⟩), .pointer (some ⟨xb, 0, none⟩), .pointer (some ⟨sb, 0, none⟩)] 32) = x5 := hx5
 clear hb4 B4 hb5 B5 C5 hb35 X1 X2 X3 HQ HQ0 HC hx4 hx5 hsb
 go_wp2
 go_ret
 exact ⟨jb, pb, xb, mb, sb, gb, L, A, n0, T, B, D, rfl, (uA HF).1, (uA HF).2⟩
end
section
open Go.RowKit Go.Maps Go.Sort Go.Shelf
theorem zJ8 (T : Nat -> En) (n k : Nat) (hk : k + 1 < (lstE T n).length) : (lstE T n).getD k 0 < (lstE T n).getD (k + 1) 0 := by
 have hs : (lstE T n).Pairwise (fun x y => x < y) := (List.pairwise_lt_range (n := n)).filter _
 have h1 : k < (lstE T n).length := by omega
 have := List.pairwise_iff_getElem.1 hs k (k + 1) h1 hk (by omega)
 simpa [h1, hk] using this
end
end Go.Proofs.YtdpnbemagiekoaaGreatDoor
