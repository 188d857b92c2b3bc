import Derived.Test.YtdpnbemagiekoaaGreatDoorMe33
set_option maxHeartbeats 2000000
set_option maxRecDepth 100000
namespace Go.Proofs.YtdpnbemagiekoaaGreatDoor
section
open Go.RowKit Go.Maps Go.Sort Go.Shelf
theorem zHO {w0 w : World} {b jb pb xb eb bm mb sb : Nat} {Y : Nat -> Prop} {n : Nat} {S : PS} {L : List ByteArray} {A : List (Nat × Nat)} {hn : Nat} {Mw Mn : List ByteArray} {T U : Nat -> En} {B : Nat -> Bool} {e0 e1 e2 : Addr} (h : CG w0 w b jb pb xb eb bm mb sb Y n S L A hn Mw Mn T U B) (hs : Snt w0 e0 e1 e2) (d : ByteArray) (hd : d.size = 32) (hU : ∀ j c, U j ≠ some (d, c)) : Calls Tryz.prog 17 #[.pointer (some ⟨sb, 0, none⟩), .string d] w fun e w' => e = .returned (.int .i64 0) /\ Below w.heap.size w w' := by
 have HF := uB (zDE h (hs.below h.bel) d hd hU)
 have X0 := uB (And.intro h hs)
 clear h hs hd hU
 go_enter Tryz.func17, Tryz.ntmps17
 go_wp2_with fail
 refine (uA HF).mono ?_
 rintro e x2 ⟨rfl, hb2⟩
 obtain ⟨g, hg⟩ : ∃ q, x2.heap.size = q := ⟨_, rfl⟩
 obtain ⟨x3, hx3⟩ : ∃ q, x2.alloc (.cells #[.int .i64 0, .string ⟨#[]⟩, .int .i64 0] 40) = q := ⟨_, rfl⟩
 have hb3 : Below x2.heap.size x2 x3 := by rw [<- hx3]; exact (Below.refl _ x2).alloc (Nat.le_refl _) _
 have B3 : Blk x3 g #[.int .i64 0, .string ⟨#[]⟩, .int .i64 0] 40 := by rw [<- hx3, <- hg]; exact Blk.new x2 _ _
 have a0 : x3.cell? ⟨g, 0, none⟩ = some (.int .i64 0) := B3.cell 0
 have a1 : x3.cell? ⟨g, 1, none⟩ = some (.string ⟨#[]⟩) := B3.cell 1
 have a2 : x3.cell? ⟨g, 2, none⟩ = some (.int .i64 0) := B3.cell 2
 have p0 := B3.frozen 0
 have p1 := B3.frozen 1
 have p2 := B3.frozen 2
 obtain ⟨x4, hx4⟩ : ∃ q, ((x3.setCell ⟨g, 0, none⟩ (.int .i64 0)).setCell ⟨g, 1, none⟩ (.string ⟨#[]⟩)).setCell ⟨g, 2, none⟩ (.int .i64 0) = q := ⟨_, rfl⟩
 have B4 : Blk x4 g (((#[.int .i64 0, .string ⟨#[]⟩, .int .i64 0] : Array Value).setIfInBounds 0 (.int .i64 0)).setIfInBounds 1 (.string ⟨#[]⟩) |>.setIfInBounds 2 (.int .i64 0)) 40 := by rw [<- hx4]; exact ((B3.set 0 (.int .i64 0)).set 1 (.string ⟨#[]⟩)).set 2 (.int .i64 0)
 have hb4 : Below w.heap.size w x4 := by
  have hwg : w.heap.size <= g := by rw [<- hg]; exact hb2.size
  rw [<- hx4]
  exact (((hb2.trans (hb3.mono hb2.size)).setCell (p := ⟨g, 0, none⟩) hwg _).setCell (p := ⟨g, 1, none⟩) hwg _).setCell (p := ⟨g, 2, none⟩) hwg _
 have c2 : x4.cell? ⟨g, 2, none⟩ = some (.int .i64 0) := B4.cell 2
 have X4 := uB hb4
 clear hb2 hb3 B3 B4 hb4 HF X0
 go_wp2
 go_ret
 exact ⟨rfl, uA X4⟩
theorem zJl {w0 w : World} {b jb pb xb eb bm mb sb : Nat} {Y : Nat -> Prop} {n : Nat} {S : PS} {L : List ByteArray} {A : List (Nat × Nat)} {hn : Nat} {Mw Mn : List ByteArray} {T U : Nat -> En} {B : Nat -> Bool} {e0 e1 e2 : Addr} (h : CG w0 w b jb pb xb eb bm mb sb Y n S L A hn Mw Mn T U B) (hs : Snt w0 e0 e1 e2) (d : ByteArray) (hd : d.size = 32) (hU : ∀ j c, U j ≠ some (d, c)) : Calls Tryz.prog 24 #[.pointer (some ⟨sb, 0, none⟩), .string d] w fun e w' => e = .returned (.tuple #[.string ⟨#[]⟩, .int .i64 90]) /\ Below w.heap.size w w' := by
 have HF := uB (zDE h (hs.below h.bel) d hd hU)
 have X0 := uB (And.intro h hs)
 clear h hs hd hU
 go_enter Tryz.func24, Tryz.ntmps24
 go_wp2_with fail
 refine (uA HF).mono ?_
 rintro e x2 ⟨rfl, hb2⟩
 obtain ⟨g, hg⟩ : ∃ q, x2.heap.size = q := ⟨_, rfl⟩
 obtain ⟨x3, hx3⟩ : ∃ q, x2.alloc (.cells #[.int .i64 0, .string ⟨#[]⟩, .int .i64 0] 40) = q := ⟨_, rfl⟩
 have hb3 : Below x2.heap.size x2 x3 := by rw [<- hx3]; exact (Below.refl _ x2).alloc (Nat.le_refl _) _
 have B3 : Blk x3 g #[.int .i64 0, .string ⟨#[]⟩, .int .i64 0] 40 := by rw [<- hx3, <- hg]; exact Blk.new x2 _ _
 have a0 : x3.cell? ⟨g, 0, none⟩ = some (.int .i64 0) := B3.cell 0
 have a1 : x3.cell? ⟨g, 1, none⟩ = some (.string ⟨#[]⟩) := B3.cell 1
 have a2 : x3.cell? ⟨g, 2, none⟩ = some (.int .i64 0) := B3.cell 2
 have p0 := B3.frozen 0
 have p1 := B3.frozen 1
 have p2 := B3.frozen 2
 obtain ⟨x4, hx4⟩ : ∃ q, ((x3.setCell ⟨g, 0, none⟩ (.int .i64 0)).setCell ⟨g, 1, none⟩ (.string ⟨#[]⟩)).setCell ⟨g, 2, none⟩ (.int .i64 0) = q := ⟨_, rfl⟩
 have B4 : Blk x4 g (((#[.int .i64 0, .string ⟨#[]⟩, .int .i64 0] : Array Value).setIfInBounds 0 (.int .i64 0)).setIfInBounds 1 (.string ⟨#[]⟩) |>.setIfInBounds 2 (.int .i64 0)) 40 := by rw [<- hx4]; exact ((B3.set 0 (.int .i64 0)).set 1 (.string ⟨#[]⟩)).set 2 (.int .i64 0)
 have hb4 : Below w.heap.size w x4 := by
  have hwg : w.heap.size <= g := by rw [<- hg]; exact hb2.size
  rw [<- hx4]
  exact (((hb2.trans (hb3.mono hb2.size)).setCell (p := ⟨g, 0, none⟩) hwg _).setCell (p := ⟨g, 1, none⟩) hwg _).setCell (p := ⟨g, 2, none⟩) hwg _
 have c2 : x4.cell? ⟨g, 2, none⟩ = some (.int .i64 0) := B4.cell 2
 have HA := uB (zLh ((uA X0).2.below (((uA X0).1.below hb4).bel)))
 have X4 := uB hb4
 clear hb2 hb3 B3 B4 hb4 HF X0
 go_wp2_with (go_at_call 43; refine (uA HA).mono ?_; rintro e w' ⟨rfl, hw'⟩; subst w')
 go_ret2
 exact ⟨rfl, uA X4⟩
theorem CG.ofKept {w0 w : World} {b jb pb xb eb bm mb sb : Nat} {Y : Nat -> Prop} {n : Nat} {S : PS} {L : List ByteArray} {A : List (Nat × Nat)} {hn : Nat} {Mw Mn : List ByteArray} {T U : Nat -> En} {B : Nat -> Bool} (h : CG w0 w b jb pb xb eb bm mb sb Y n S L A hn Mw Mn T U B) {w' : World} (k : Kept w0 w b jb pb mb (Xf Y xb eb bm) 19 n S L A hn Mw Mn B w') : zHx w0 w b jb pb xb eb bm mb sb Y n S L A hn Mw Mn T U B w' := by
 obtain ⟨S', k1, k2, k3, k4⟩ := k
 exact ⟨S', h.next k1.pk k4 k1.seen h.ig.is h.ig.ok k1.ms, k2, k3, k4⟩
end
section
open Go.RowKit Go.Maps Go.Sort Go.Shelf
theorem zIY {w0 w : World} {b jb pb xb eb bm mb sb : Nat} {Y : Nat -> Prop} {n : Nat} {S : PS} {L : List ByteArray} {A : List (Nat × Nat)} {hn : Nat} {Mw Mn : List ByteArray} {T : Nat -> En} {B : Nat -> Bool} (h : CG w0 w b jb pb xb eb bm mb sb Y n S L A hn Mw Mn T T B) (ho : S.op = true) (i : Nat) (hi : i < n) (d : ByteArray) (c : Nat) (hT : T i = some (d, c)) (hB : B i = true) (hz : S.tx.length <= 14) : Calls Tryz.prog 63 #[.pointer (some ⟨sb, 0, none⟩), .int .i64 (i : Int)] w fun e w' => e = .returned .nilIface /\ CChg w0 w b jb pb xb eb bm mb sb Y n S L A hn Mw Mn [20 + i / 6, 19] (upd T i none) (upd T i none) (flp B i) (fun _ => True) w' := by
 have HC := uB (h.clear ho i hi d c hT (zEJ (by omega) _))
 obtain ⟨c0, c1, c2, c3⟩ := h.c
 have HWH := uB (fun s W => zBZ s W)
 have HQ := uB (And.intro hi (And.intro hB hz))
 clear h ho hi hT hB hz
 go_enter Tryz.func63, Tryz.ntmps63
 go_wp2_with fail
 refine (uA HC).mono ?_
 rintro e x1 ⟨rfl, S1, Mn1, G1, o1, k1, m1, f1, -, O1⟩
 obtain ⟨hi, hB, hz⟩ := uA HQ
 have z1 := CChg.len G1 m1
 simp only [List.length_cons, List.length_nil] at z1
 have HF := uB (G1.free o1 i hi hB (zEJ (by omega) _))
 obtain ⟨d0, d1, d2, d3⟩ := G1.c
 have X1 := uB (And.intro k1 (And.intro m1 (And.intro f1 O1)))
 clear hi hB hz G1 o1 k1 m1 f1 O1 z1 HC c0 c1 c2 c3
 go_wp2_with fail
 refine (uA HF).mono ?_
 rintro e x2 ⟨rfl, ⟨S2, Mn2, G2, o2, k2, m2, f2, -, O2⟩, -⟩
 obtain ⟨k1, m1, f1, O1⟩ := uA X1
 have X2 := uB (show CChg w0 w b jb pb xb eb bm mb sb Y n S L A hn Mw Mn [20 + i / 6, 19] (upd T i none) (upd T i none) (flp B i) (fun _ => True) x2 from ⟨S2, Mn2, G2, o2, k2.trans k1, fun q hq => by
   rcases m2 q hq with r | ⟨r, hr, er⟩
   ·rcases m1 q r with r | ⟨r, hr, er⟩
    ·exact .inl r
    ·exact .inr ⟨r, by rw [List.mem_singleton] at hr; simp [hr], er⟩
   ·exact .inr ⟨r, by rw [List.mem_singleton] at hr; simp [hr], er⟩, fun k h1 h2 hk => by
   simp only [List.mem_cons, List.not_mem_nil, or_false, not_or] at hk
   rw [f2 k h1 h2 (by simpa using hk.2), f1 k h1 h2 (by simpa using hk.1)], trivial, O1.trans O2 (fun _ _ q => q)⟩)
 clear G2 o2 k2 m2 f2 O2 k1 m1 f1 O1 HF X1
 go_wp2_with (go_at_call 102; refine (uA HWH _ _).mono ?_; rintro e w' ⟨rfl, hw'⟩; subst w')
 go_ret
 exact ⟨rfl, uA X2⟩
theorem zI0 {w0 w : World} {b jb pb xb eb bm mb sb : Nat} {Y : Nat -> Prop} {n : Nat} {S : PS} {L : List ByteArray} {A : List (Nat × Nat)} {hn : Nat} {Mw Mn : List ByteArray} {T : Nat -> En} {B : Nat -> Bool} {e0 e1 e2 : Addr} (h : CG w0 w b jb pb xb eb bm mb sb Y n S L A hn Mw Mn T T B) (ho : S.op = true) (hs : Snt w0 e0 e1 e2) (i : Nat) (hi : i < n) (d : ByteArray) (hT : T i = some (d, 1)) (hB : B i = true) (hz : S.tx.length <= 14) : Calls Tryz.prog 20 #[.pointer (some ⟨sb, 0, none⟩), .string d] w fun e w' => e = .returned (.tuple #[.bool true, .int .i64 0]) /\ CChg w0 w b jb pb xb eb bm mb sb Y n S L A hn Mw Mn [20 + i / 6, 19] (upd T i none) (upd T i none) (flp B i) (fun _ => True) w' := by
 have HF := uB (zGh h ho hs i hi d 1 hT)
 try simp only [Int.cast_ofNat_Int] at HF
 have X0 := uB (And.intro h (And.intro ho hs))
 clear h ho hs
 go_enter Tryz.func20, Tryz.ntmps20
 go_wp2_with fail
 refine (uA HF).mono ?_
 rintro e x2 ⟨rfl, G2, O2⟩
 obtain ⟨h, ho, hs⟩ := uA X0
 obtain ⟨g, hg⟩ : ∃ q, x2.heap.size = q := ⟨_, rfl⟩
 obtain ⟨x3, hx3⟩ : ∃ q, x2.alloc (.cells #[.int .i64 (i : Int), .string d, .int .i64 1] 40) = q := ⟨_, rfl⟩
 have hb3 : Below x2.heap.size x2 x3 := by rw [<- hx3]; exact (Below.refl _ x2).alloc (Nat.le_refl _) _
 have B3 : Blk x3 g #[.int .i64 (i : Int), .string d, .int .i64 1] 40 := by rw [<- hx3, <- hg]; exact Blk.new x2 _ _
 have G3 := G2.below hb3
 have OX : Only (fun x => ¬ Xf Y xb eb bm x) w x3 := O2.trans (Only.of_below (P := fun x => ¬ Xf Y xb eb bm x) hb3) (fun _ _ q => q)
 have hs3 : Snt x3 e0 e1 e2 := hs.below G3.bel
 have a0 : x3.cell? ⟨g, 0, none⟩ = some (.int .i64 (i : Int)) := B3.cell 0
 have a1 : x3.cell? ⟨g, 1, none⟩ = some (.string d) := B3.cell 1
 have a2 : x3.cell? ⟨g, 2, none⟩ = some (.int .i64 1) := B3.cell 2
 have HC := uB (zIY G3 ho i hi d 1 hT hB hz)
 have X3 := uB OX
 clear h ho hs G2 O2 B3 hb3 G3 OX hs3 HF X0 hT hB hz hi
 go_wp2_with fail
 refine (uA HC).mono ?_
 rintro e x4 ⟨rfl, k⟩
 have X4 := uB (CChg.from ((uA X3).mono (fun x _ q r => q (.inl r))) k)
 clear k HC
 go_wp2
 go_ret2
 exact ⟨rfl, uA X4⟩
end
section
open Go.RowKit Go.Maps Go.Sort Go.Shelf
def Yz (mb sb gb : Nat) (Z : Nat -> Prop) : Nat -> Prop := fun x => x = mb ∨ x = sb ∨ x = gb ∨ Z x
def Kp (Z : Nat -> Prop) (w w' : World) : Prop := ∀ x, Z x -> w'.heap[x]? = w.heap[x]?
theorem Kp.trans {Z : Nat -> Prop} {a b c : World} (h : Kp Z a b) (k : Kp Z b c) : Kp Z a c := fun x hx => (k x hx).trans (h x hx)
def CSz (w0 w : World) (b jb pb xb mb sb gb : Nat) (Z : Nat -> Prop) (n z : Nat) (op : Bool) (L : List ByteArray) (A : List (Nat × Nat)) (hn : Nat) (Tw T U : Nat -> En) (Bw B : Nat -> Bool) (Dw D : Nat -> ByteArray) : Prop :=
 ∃ S eb bm Mw Mn, CG w0 w b jb pb xb eb bm mb sb (Yz mb sb gb Z) n S L A hn Mw Mn T U B /\ (S.op = op /\ S.keep = 4 /\ TxC S z) /\ (IS Mw 20 n Tw /\ TOk n Tw /\ MS Mw 19 n Bw) /\ ((∀ i, i < n -> Mw.getD (30 + i) ByteArray.empty = Dw i) /\ (∀ i, i < n -> Mn.getD (30 + i) ByteArray.empty = D i)) /\ Blk w gb (Pcl b pb mb xb sb) 32
theorem CSz.c {w0 w : World} {b jb pb xb mb sb gb : Nat} {Z : Nat -> Prop} {n z : Nat} {op : Bool} {L : List ByteArray} {A : List (Nat × Nat)} {hn : Nat} {Tw T U : Nat -> En} {Bw B : Nat -> Bool} {Dw D : Nat -> ByteArray} (h : CSz w0 w b jb pb xb mb sb gb Z n z op L A hn Tw T U Bw B Dw D) : w.cell? ⟨gb, 0, none⟩ = some (.pointer (some ⟨b, 0, none⟩)) /\ w.cell? ⟨gb, 1, none⟩ = some (.pointer (some ⟨pb, 0, none⟩)) /\ w.cell? ⟨gb, 2, none⟩ = some (.pointer (some ⟨mb, 0, none⟩)) /\ w.cell? ⟨gb, 3, none⟩ = some (.pointer (some ⟨xb, 0, none⟩)) /\ w.cell? ⟨gb, 4, none⟩ = some (.pointer (some ⟨sb, 0, none⟩)) := by
 obtain ⟨S, eb, bm, Mw, Mn, h1, ⟨h2, h2k, h2t⟩, h3, h4, h5⟩ := h
 exact ⟨by rw [h5.cell]; rfl, by rw [h5.cell]; rfl, by rw [h5.cell]; rfl, by rw [h5.cell]; rfl, by rw [h5.cell]; rfl⟩
theorem CSz.bel {w0 w : World} {b jb pb xb mb sb gb : Nat} {Z : Nat -> Prop} {n z : Nat} {op : Bool} {L : List ByteArray} {A : List (Nat × Nat)} {hn : Nat} {Tw T U : Nat -> En} {Bw B : Nat -> Bool} {Dw D : Nat -> ByteArray} (h : CSz w0 w b jb pb xb mb sb gb Z n z op L A hn Tw T U Bw B Dw D) : Below w0.heap.size w0 w := by
 obtain ⟨S, eb, bm, Mw, Mn, h1, ⟨h2, h2k, h2t⟩, h3, h4, h5⟩ := h
 exact h1.bel
theorem CSz.zlt {w0 w : World} {b jb pb xb mb sb gb : Nat} {Z : Nat -> Prop} {n z : Nat} {op : Bool} {L : List ByteArray} {A : List (Nat × Nat)} {hn : Nat} {Tw T U : Nat -> En} {Bw B : Nat -> Bool} {Dw D : Nat -> ByteArray} (h : CSz w0 w b jb pb xb mb sb gb Z n z op L A hn Tw T U Bw B Dw D) (x : Nat) (hx : Z x) : x < w.heap.size := by
 obtain ⟨S, eb, bm, Mw, Mn, h1, ⟨h2, h2k, h2t⟩, h3, h4, h5⟩ := h
 exact h1.ig.pk.lt x (.inl (.inr (.inr (.inr hx))))
theorem CSz.below {w0 w : World} {b jb pb xb mb sb gb : Nat} {Z : Nat -> Prop} {n z : Nat} {op : Bool} {L : List ByteArray} {A : List (Nat × Nat)} {hn : Nat} {Tw T U : Nat -> En} {Bw B : Nat -> Bool} {Dw D : Nat -> ByteArray} (h : CSz w0 w b jb pb xb mb sb gb Z n z op L A hn Tw T U Bw B Dw D) {w' : World} (hb : Below w.heap.size w w') : CSz w0 w' b jb pb xb mb sb gb Z n z op L A hn Tw T U Bw B Dw D /\ Kp Z w w' := by
 refine ⟨?_, fun x hx => hb.block x (h.zlt x hx)⟩
 obtain ⟨S, eb, bm, Mw, Mn, h1, ⟨h2, h2k, h2t⟩, h3, h4, h5⟩ := h
 exact ⟨S, eb, bm, Mw, Mn, h1.below hb, ⟨h2, h2k, h2t⟩, h3, h4, h5.below hb h5.lt⟩
theorem CSz.more {w0 w : World} {b jb pb xb mb sb gb : Nat} {Z : Nat -> Prop} {n z : Nat} {op : Bool} {L : List ByteArray} {A : List (Nat × Nat)} {hn : Nat} {Tw T U : Nat -> En} {Bw B : Nat -> Bool} {Dw D : Nat -> ByteArray} (h : CSz w0 w b jb pb xb mb sb gb Z n z op L A hn Tw T U Bw B Dw D) {w' : World} {Z' : Nat -> Prop} (hb : Below w.heap.size w w') (hz : ∀ x, Z' x -> Z x ∨ (w.heap.size <= x /\ x < w'.heap.size)) : CSz w0 w' b jb pb xb mb sb gb Z' n z op L A hn Tw T U Bw B Dw D := by
 obtain ⟨S, eb, bm, Mw, Mn, h1, ⟨h2, h2k, h2t⟩, h3, h4, h5⟩ := h
 refine ⟨S, eb, bm, Mw, Mn, h1.more (Z := Yz mb sb gb Z') hb (fun x q => ?_) (.inl rfl) (.inr (.inl rfl)), ⟨h2, h2k, h2t⟩, h3, h4, h5.below hb h5.lt⟩
 rcases q with q | q | q | q
 ·exact .inl (.inl q)
 ·exact .inl (.inr (.inl q))
 ·exact .inl (.inr (.inr (.inl q)))
 ·exact (hz x q).imp_left (fun r => .inr (.inr (.inr r)))
theorem CSz.ok {w0 w : World} {b jb pb xb mb sb gb : Nat} {Z : Nat -> Prop} {n z : Nat} {op : Bool} {L : List ByteArray} {A : List (Nat × Nat)} {hn : Nat} {Tw T U : Nat -> En} {Bw B : Nat -> Bool} {Dw D : Nat -> ByteArray} (h : CSz w0 w b jb pb xb mb sb gb Z n z op L A hn Tw T U Bw B Dw D) : TOk n T /\ TOk n U /\ TOk n Tw := by
 obtain ⟨S, eb, bm, Mw, Mn, h1, ⟨h2, h2k, h2t⟩, h3, h4, h5⟩ := h
 exact ⟨h1.ig.ok, h1.ig.oku, h3.2.1⟩
theorem kp_x {w0 w w' : World} {b jb pb xb eb bm : Nat} {S : PS} {Y Z : Nat -> Prop} (K : PK w0 w b jb pb S (Xf Y xb eb bm)) (ho : Only (fun x => ¬ Xf Y xb eb bm x) w w') (hz : ∀ x, Z x -> Xf Y xb eb bm x) : Kp Z w w' := fun x hx => ho.2 x (K.lt x (hz x hx)) (fun q => q (hz x hx))
theorem CSz.begin {w0 w : World} {b jb pb xb mb sb gb : Nat} {Z : Nat -> Prop} {n z : Nat} {L : List ByteArray} {A : List (Nat × Nat)} {hn : Nat} {Tw T U : Nat -> En} {Bw B : Nat -> Bool} {Dw D : Nat -> ByteArray} (h : CSz w0 w b jb pb xb mb sb gb Z n z false L A hn Tw T U Bw B Dw D) : Calls Tryz.prog 11 #[.pointer (some ⟨pb, 0, none⟩)] w fun e w' => e = .returned (.int .i64 0) /\ CSz w0 w' b jb pb xb mb sb gb Z n z true L A hn Tw T U Bw B Dw D /\ Kp Z w w' := by
 obtain ⟨S, eb, bm, Mw, Mn, h1, ⟨h2, h2k, h2t⟩, h3, h4, h5⟩ := h
 obtain ⟨s1, s2, s3, s4⟩ := h1.ig.seen.begin
 rw [h2] at s1
 have hc := zCC h1.ig.pk
 rw [show zAU S = 0 from s1] at hc
 refine hc.mono ?_
 rintro e w' ⟨rfl, K, hO⟩
 exact ⟨rfl, ⟨_, eb, bm, Mw, Mn, h1.next K hO s2 h1.ig.is h1.ig.ok h1.ms, ⟨s3, by rw [<- h2k]; unfold zAG; split <;> (try split) <;> rfl, by unfold TxC; rw [s4]; exact h2t⟩, h3, h4, h5.only hO (fun q => q (.inl (.inr (.inr (.inl rfl)))))⟩, kp_x h1.ig.pk hO (fun x hx => .inl (.inr (.inr (.inr hx))))⟩
theorem CSz.commit {w0 w : World} {b jb pb xb mb sb gb : Nat} {Z : Nat -> Prop} {n z : Nat} {L : List ByteArray} {A : List (Nat × Nat)} {hn : Nat} {Tw T U : Nat -> En} {Bw B : Nat -> Bool} {Dw D : Nat -> ByteArray} (h : CSz w0 w b jb pb xb mb sb gb Z n z true L A hn Tw T U Bw B Dw D) (ha : A.length <= 1000000) : Calls Tryz.prog 16 #[.pointer (some ⟨pb, 0, none⟩)] w fun e w' => e = .returned (.int .i64 0) /\ (∃ L' A', A'.length <= A.length + 38 /\ CSz w0 w' b jb pb xb mb sb gb Z n 0 false L' A' ((hn + 1) % 4294967296) T T U B B D D) /\ Kp Z w w' := by
 obtain ⟨S, eb, bm, Mw, Mn, h1, ⟨h2, h2k, h2t⟩, h3, h4, h5⟩ := h
 obtain ⟨s1, s2, s3⟩ := h1.ig.seen.commit h2 h1.bg.srt h1.bg.t16 h1.bg.tok
 have hc := zER h1.ig.pk (by rw [h1.ig.seen.rst.nx]; exact Nat.mod_lt _ (by decide)) (by rw [h1.ig.seen.rst.s]; exact Nat.zero_le _) (by rw [h1.ig.seen.rst.s]; show A.length <= _; omega)
 rw [s1] at hc
 refine hc.mono ?_
 rintro e w' ⟨rfl, K, hO⟩
 refine ⟨rfl, ⟨_, _, ?_, _, eb, bm, Mn, Mn, h1.next K hO s2 h1.ig.is h1.ig.ok h1.ms, ⟨s3, ?_, [], Nat.le_refl _, ?_⟩, ⟨h1.ig.is, h1.ig.ok, h1.ms⟩, ⟨h4.2, h4.2⟩, h5.only hO (fun q => q (.inl (.inr (.inr (.inl rfl)))))⟩, kp_x h1.ig.pk hO (fun x hx => .inl (.inr (.inr (.inr hx))))⟩
 ·rw [List.length_append, zIa _ h1.bg.t16]
  exact Nat.le_refl _
 ·rw [<- h2k]
  exact (zEs h1.ig.seen.rst h2 h1.ig.seen.len (zFY h1.bg.srt h1.bg.t16 h1.bg.tok)).2.2.2.2.1
 ·rw [s2.cl s3]
  intro p hp
  cases hp
theorem CSz.chg {w0 w : World} {b jb pb xb mb sb gb : Nat} {Z : Nat -> Prop} {n z : Nat} {L : List ByteArray} {A : List (Nat × Nat)} {hn : Nat} {Tw T' U' : Nat -> En} {Bw B' : Nat -> Bool} {Dw D : Nat -> ByteArray} {S : PS} {eb bm : Nat} {Mw Mn : List ByteArray} {Q : List Nat} {R : List ByteArray -> Prop} {w' : World} (h2k : S.keep = 4) (h2t : TxC S z) (h3 : IS Mw 20 n Tw /\ TOk n Tw /\ MS Mw 19 n Bw) (h4 : (∀ i, i < n -> Mw.getD (30 + i) ByteArray.empty = Dw i) /\ (∀ i, i < n -> Mn.getD (30 + i) ByteArray.empty = D i)) (h5 : Blk w gb (Pcl b pb mb xb sb) 32) (k : CChg w0 w b jb pb xb eb bm mb sb (Yz mb sb gb Z) n S L A hn Mw Mn Q T' U' B' R w') (hQ : ∀ q ∈ Q, 19 <= q /\ q < 24) : CSz w0 w' b jb pb xb mb sb gb Z n z true L A hn Tw T' U' Bw B' Dw D := by
 obtain ⟨S', Mn', k1, k2, k3, k4, k5, k6, k7⟩ := k
 have hn24 := k1.n24
 refine ⟨S', eb, bm, Mw, Mn', k1, ⟨k2, k3.trans h2k, ?_⟩, h3, ⟨h4.1, fun i hi => ?_⟩, h5.only k7 (fun q => q (.inr (.inr (.inl rfl))))⟩
 ·obtain ⟨Z, z1, z2⟩ := h2t
  refine ⟨Z, z1, fun p hp => ?_⟩
  rcases k4 p hp with q | ⟨q, hq, e⟩
  ·exact z2 p q
  ·have := hQ q hq
   exact .inl (by omega)
 ·rw [k5 (30 + i) (by omega) (by omega) (fun q => by have := hQ _ q; omega)]
  exact h4.2 i hi
theorem CSz.chg1 {w0 w : World} {b jb pb xb mb sb gb : Nat} {Z : Nat -> Prop} {n z : Nat} {L : List ByteArray} {A : List (Nat × Nat)} {hn : Nat} {Tw T' U' : Nat -> En} {Bw B' : Nat -> Bool} {Dw D : Nat -> ByteArray} {S : PS} {eb bm : Nat} {Mw Mn : List ByteArray} {Q : List Nat} {R : List ByteArray -> Prop} {w' : World} (h2k : S.keep = 4) (h2t : TxC S z) (h3 : IS Mw 20 n Tw /\ TOk n Tw /\ MS Mw 19 n Bw) (h4 : (∀ i, i < n -> Mw.getD (30 + i) ByteArray.empty = Dw i) /\ (∀ i, i < n -> Mn.getD (30 + i) ByteArray.empty = D i)) (h5 : Blk w gb (Pcl b pb mb xb sb) 32) (k : CChg w0 w b jb pb xb eb bm mb sb (Yz mb sb gb Z) n S L A hn Mw Mn Q T' U' B' R w') (p : Nat) (t : ByteArray) (hQ : ∀ q ∈ Q, (19 <= q /\ q < 24) ∨ q = 30 + p) (hR : ∀ M, R M -> M.getD (30 + p) ByteArray.empty = t) : CSz w0 w' b jb pb xb mb sb gb Z n (z + 1) true L A hn Tw T' U' Bw B' Dw (fun i => if i = p then t else D i) := by
 obtain ⟨S', Mn', k1, k2, k3, k4, k5, k6, k7⟩ := k
 have hn24 := k1.n24
 refine ⟨S', eb, bm, Mw, Mn', k1, ⟨k2, k3.trans h2k, ?_⟩, h3, ⟨h4.1, fun i hi => ?_⟩, h5.only k7 (fun q => q (.inr (.inr (.inl rfl))))⟩
 ·obtain ⟨Z, z1, z2⟩ := h2t
  refine ⟨((30 + p : Nat) : Int) :: Z, by simp only [List.length_cons]; omega, fun x hx => ?_⟩
  rcases k4 x hx with q | ⟨q, hq, e⟩
  ·exact (z2 x q).imp_right (fun r => List.mem_cons.2 (.inr r))
  ·rcases hQ q hq with r | r
   ·exact .inl (by omega)
   ·exact .inr (List.mem_cons.2 (.inl (by rw [e, r])))
 ·show Mn'.getD (30 + i) ByteArray.empty = if i = p then t else D i
  by_cases e : i = p
  ·subst e
   rw [if_pos rfl]
   exact hR _ k6
  ·rw [if_neg e, k5 (30 + i) (by omega) (by omega) (fun q => by have := hQ _ q; omega)]
   exact h4.2 i hi
theorem CChg.kp {w0 w : World} {b jb pb xb eb bm mb sb : Nat} {Y Z : Nat -> Prop} {n : Nat} {S : PS} {L : List ByteArray} {A : List (Nat × Nat)} {hn : Nat} {Mw Mn : List ByteArray} {Q : List Nat} {T' U' : Nat -> En} {B' : Nat -> Bool} {R : List ByteArray -> Prop} {w' : World} (k : CChg w0 w b jb pb xb eb bm mb sb Y n S L A hn Mw Mn Q T' U' B' R w') (hl : ∀ x, Z x -> x < w.heap.size) (hz : ∀ x, Z x -> Y x) : Kp Z w w' := by
 obtain ⟨S', Mn', k1, k2, k3, k4, k5, k6, k7⟩ := k
 exact fun x hx => k7.2 x (hl x hx) (fun q => q (hz x hx))
theorem CSz.kept {w0 w : World} {b jb pb xb mb sb gb : Nat} {Z : Nat -> Prop} {n z : Nat} {op : Bool} {S : PS} {eb bm : Nat} {Mw Mn : List ByteArray} {w' : World} {L : List ByteArray} {A : List (Nat × Nat)} {hn : Nat} {Tw T U : Nat -> En} {Bw B : Nat -> Bool} {Dw D : Nat -> ByteArray} (h2 : S.op = op) (h2k : S.keep = 4) (h2t : TxC S z) (h3 : IS Mw 20 n Tw /\ TOk n Tw /\ MS Mw 19 n Bw) (h4 : (∀ i, i < n -> Mw.getD (30 + i) ByteArray.empty = Dw i) /\ (∀ i, i < n -> Mn.getD (30 + i) ByteArray.empty = D i)) (h5 : Blk w gb (Pcl b pb mb xb sb) 32) (k : zHx w0 w b jb pb xb eb bm mb sb (Yz mb sb gb Z) n S L A hn Mw Mn T U B w') : CSz w0 w' b jb pb xb mb sb gb Z n z op L A hn Tw T U Bw B Dw D := by
 obtain ⟨S', k1, k2, k3, k4⟩ := k
 exact ⟨S', eb, bm, Mw, Mn, k1, ⟨k2.trans h2, k3.2.trans h2k, by unfold TxC; rw [k3.1]; exact h2t⟩, h3, h4, h5.only k4 (fun q => q (.inl (.inr (.inr (.inl rfl)))))⟩
theorem CSz.saveN {w0 w : World} {b jb pb xb mb sb gb : Nat} {Z : Nat -> Prop} {n z : Nat} {L : List ByteArray} {A : List (Nat × Nat)} {hn : Nat} {Tw T : Nat -> En} {Bw B : Nat -> Bool} {Dw D : Nat -> ByteArray} {e0 e1 e2 : Addr} (h : CSz w0 w b jb pb xb mb sb gb Z n z true L A hn Tw T T Bw B Dw D) (hz : z <= 8) (hK : KTab w0) (hs : Snt w0 e0 e1 e2) (t d : ByteArray) (hd : dgB t = d) (ht : t.size = 256) (p : Nat) (hl : Lea B n p) (hT : ∀ j c, T j ≠ some (d, c)) : Calls Tryz.prog 12 #[.pointer (some ⟨sb, 0, none⟩), .string t] w fun e w' => e = .returned (.tuple #[.string d, .bool true, .int .i64 0]) /\ CSz w0 w' b jb pb xb mb sb gb Z n (z + 1) true L A hn Tw (upd T p (some (d, 1))) (upd T p (some (d, 1))) Bw (flp B p) Dw (fun i => if i = p then t else D i) /\ Kp Z w w' := by
 subst hd
 have hzl := h.zlt
 obtain ⟨S, eb, bm, Mw, Mn, h1, ⟨h2, h2k, h2t⟩, h3, h4, h5⟩ := h
 have hp := hl.1
 have hn24 := h1.n24
 have hlen := h2t.len h1.srt
 refine (zKO h1 h2 hK hs t ht p hl hT (by omega)).mono ?_
 rintro e w' ⟨rfl, k⟩
 exact ⟨rfl, CSz.chg1 h2k h2t h3 h4 h5 k p t (fun q hq => by simp only [List.mem_cons, List.not_mem_nil, or_false] at hq; omega) (fun M hM => hM), k.kp hzl (fun x hx => .inr (.inr (.inr hx)))⟩
theorem CSz.saveH {w0 w : World} {b jb pb xb mb sb gb : Nat} {Z : Nat -> Prop} {n z : Nat} {L : List ByteArray} {A : List (Nat × Nat)} {hn : Nat} {Tw T : Nat -> En} {Bw B : Nat -> Bool} {Dw D : Nat -> ByteArray} {e0 e1 e2 : Addr} (h : CSz w0 w b jb pb xb mb sb gb Z n z true L A hn Tw T T Bw B Dw D) (hz : z <= 10) (hK : KTab w0) (hs : Snt w0 e0 e1 e2) (t d : ByteArray) (hd : dgB t = d) (ht : t.size = 256) (i : Nat) (hi : i < n) (c : Nat) (hc : c <= 65534) (hT : T i = some (d, c)) (hD : D i = t) : Calls Tryz.prog 12 #[.pointer (some ⟨sb, 0, none⟩), .string t] w fun e w' => e = .returned (.tuple #[.string d, .bool false, .int .i64 0]) /\ CSz w0 w' b jb pb xb mb sb gb Z n z true L A hn Tw (upd T i (some (d, c + 1))) (upd T i (some (d, c + 1))) Bw B Dw D /\ Kp Z w w' := by
 subst hd
 have hzl := h.zlt
 obtain ⟨S, eb, bm, Mw, Mn, h1, ⟨h2, h2k, h2t⟩, h3, h4, h5⟩ := h
 have hn24 := h1.n24
 refine (zLg h1 h2 hK hs t ht i hi c hc hT (h2t.room h1.srt hz _) ((h4.2 i hi).trans hD)).mono ?_
 rintro e w' ⟨rfl, k⟩
 exact ⟨rfl, CSz.chg h2k h2t h3 h4 h5 k (fun q hq => by rw [List.mem_singleton] at hq; omega), k.kp hzl (fun x hx => .inr (.inr (.inr hx)))⟩
theorem CSz.dropM {w0 w : World} {b jb pb xb mb sb gb : Nat} {Z : Nat -> Prop} {n z : Nat} {L : List ByteArray} {A : List (Nat × Nat)} {hn : Nat} {Tw T : Nat -> En} {Bw B : Nat -> Bool} {Dw D : Nat -> ByteArray} {e0 e1 e2 : Addr} (h : CSz w0 w b jb pb xb mb sb gb Z n z true L A hn Tw T T Bw B Dw D) (hz : z <= 10) (hs : Snt w0 e0 e1 e2) (i : Nat) (hi : i < n) (d : ByteArray) (c : Nat) (hc : 2 <= c) (hT : T i = some (d, c)) : Calls Tryz.prog 20 #[.pointer (some ⟨sb, 0, none⟩), .string d] w fun e w' => e = .returned (.tuple #[.bool false, .int .i64 0]) /\ CSz w0 w' b jb pb xb mb sb gb Z n z true L A hn Tw (upd T i (some (d, c - 1))) (upd T i (some (d, c - 1))) Bw B Dw D /\ Kp Z w w' := by
 have hzl := h.zlt
 obtain ⟨S, eb, bm, Mw, Mn, h1, ⟨h2, h2k, h2t⟩, h3, h4, h5⟩ := h
 have hn24 := h1.n24
 refine (zJJ h1 h2 hs i hi d c hc hT (h2t.room h1.srt hz _)).mono ?_
 rintro e w' ⟨rfl, k⟩
 exact ⟨rfl, CSz.chg h2k h2t h3 h4 h5 k (fun q hq => by rw [List.mem_singleton] at hq; omega), k.kp hzl (fun x hx => .inr (.inr (.inr hx)))⟩
theorem CSz.dropL {w0 w : World} {b jb pb xb mb sb gb : Nat} {Z : Nat -> Prop} {n z : Nat} {L : List ByteArray} {A : List (Nat × Nat)} {hn : Nat} {Tw T : Nat -> En} {Bw B : Nat -> Bool} {Dw D : Nat -> ByteArray} {e0 e1 e2 : Addr} (h : CSz w0 w b jb pb xb mb sb gb Z n z true L A hn Tw T T Bw B Dw D) (hz : z <= 9) (hs : Snt w0 e0 e1 e2) (i : Nat) (hi : i < n) (d : ByteArray) (hT : T i = some (d, 1)) (hB : B i = true) : Calls Tryz.prog 20 #[.pointer (some ⟨sb, 0, none⟩), .string d] w fun e w' => e = .returned (.tuple #[.bool true, .int .i64 0]) /\ CSz w0 w' b jb pb xb mb sb gb Z n z true L A hn Tw (upd T i none) (upd T i none) Bw (flp B i) Dw D /\ Kp Z w w' := by
 have hzl := h.zlt
 obtain ⟨S, eb, bm, Mw, Mn, h1, ⟨h2, h2k, h2t⟩, h3, h4, h5⟩ := h
 have hn24 := h1.n24
 have hlen := h2t.len h1.srt
 refine (zI0 h1 h2 hs i hi d hT hB (by omega)).mono ?_
 rintro e w' ⟨rfl, k⟩
 exact ⟨rfl, CSz.chg h2k h2t h3 h4 h5 k (fun q hq => by simp only [List.mem_cons, List.not_mem_nil, or_false] at hq; omega), k.kp hzl (fun x hx => .inr (.inr (.inr hx)))⟩
theorem CSz.count {w0 w : World} {b jb pb xb mb sb gb : Nat} {Z : Nat -> Prop} {n z : Nat} {op : Bool} {L : List ByteArray} {A : List (Nat × Nat)} {hn : Nat} {Tw T U : Nat -> En} {Bw B : Nat -> Bool} {Dw D : Nat -> ByteArray}  (h : CSz w0 w b jb pb xb mb sb gb Z n z op L A hn Tw T U Bw B Dw D) (i : Nat) (hi : i < n) (d : ByteArray) (c : Nat) (hU : U i = some (d, c)) : Calls Tryz.prog 17 #[.pointer (some ⟨sb, 0, none⟩), .string d] w fun e w' => e = .returned (.int .i64 (c : Int)) /\ CSz w0 w' b jb pb xb mb sb gb Z n z op L A hn Tw T U Bw B Dw D /\ Kp Z w w' := by
 have h' := h
 obtain ⟨S, eb, bm, Mw, Mn, h1, ⟨h2, h2k, h2t⟩, h3, h4, h5⟩ := h
 refine (zIZ h1 i hi d c hU).mono ?_
 rintro e w' ⟨rfl, hb⟩
 exact ⟨rfl, h'.below hb⟩
theorem CSz.countM {w0 w : World} {b jb pb xb mb sb gb : Nat} {Z : Nat -> Prop} {n z : Nat} {op : Bool} {L : List ByteArray} {A : List (Nat × Nat)} {hn : Nat} {Tw T U : Nat -> En} {Bw B : Nat -> Bool} {Dw D : Nat -> ByteArray} {e0 e1 e2 : Addr} (h : CSz w0 w b jb pb xb mb sb gb Z n z op L A hn Tw T U Bw B Dw D) (hs : Snt w0 e0 e1 e2) (d : ByteArray) (hd : d.size = 32) (hU : ∀ j c, U j ≠ some (d, c)) : Calls Tryz.prog 17 #[.pointer (some ⟨sb, 0, none⟩), .string d] w fun e w' => e = .returned (.int .i64 0) /\ CSz w0 w' b jb pb xb mb sb gb Z n z op L A hn Tw T U Bw B Dw D /\ Kp Z w w' := by
 have h' := h
 obtain ⟨S, eb, bm, Mw, Mn, h1, ⟨h2, h2k, h2t⟩, h3, h4, h5⟩ := h
 refine (zHO h1 hs d hd hU).mono ?_
 rintro e w' ⟨rfl, hb⟩
 exact ⟨rfl, h'.below hb⟩
theorem CSz.loadM {w0 w : World} {b jb pb xb mb sb gb : Nat} {Z : Nat -> Prop} {n z : Nat} {op : Bool} {L : List ByteArray} {A : List (Nat × Nat)} {hn : Nat} {Tw T U : Nat -> En} {Bw B : Nat -> Bool} {Dw D : Nat -> ByteArray} {e0 e1 e2 : Addr} (h : CSz w0 w b jb pb xb mb sb gb Z n z op L A hn Tw T U Bw B Dw D) (hs : Snt w0 e0 e1 e2) (d : ByteArray) (hd : d.size = 32) (hU : ∀ j c, U j ≠ some (d, c)) : Calls Tryz.prog 24 #[.pointer (some ⟨sb, 0, none⟩), .string d] w fun e w' => e = .returned (.tuple #[.string ⟨#[]⟩, .int .i64 90]) /\ CSz w0 w' b jb pb xb mb sb gb Z n z op L A hn Tw T U Bw B Dw D /\ Kp Z w w' := by
 have h' := h
 obtain ⟨S, eb, bm, Mw, Mn, h1, ⟨h2, h2k, h2t⟩, h3, h4, h5⟩ := h
 refine (zJl h1 hs d hd hU).mono ?_
 rintro e w' ⟨rfl, hb⟩
 exact ⟨rfl, h'.below hb⟩
theorem CSz.chunks {w0 w : World} {b jb pb xb mb sb gb : Nat} {Z : Nat -> Prop} {n z : Nat} {op : Bool} {L : List ByteArray} {A : List (Nat × Nat)} {hn : Nat} {Tw T U : Nat -> En} {Bw B : Nat -> Bool} {Dw D : Nat -> ByteArray}  (h : CSz w0 w b jb pb xb mb sb gb Z n z op L A hn Tw T U Bw B Dw D)  : Calls Tryz.prog 25 #[.pointer (some ⟨sb, 0, none⟩)] w fun e w' => e = .returned (.int .i64 ((lstE U n).length : Int)) /\ CSz w0 w' b jb pb xb mb sb gb Z n z op L A hn Tw T U Bw B Dw D /\ Kp Z w w' := by
 have h' := h
 obtain ⟨S, eb, bm, Mw, Mn, h1, ⟨h2, h2k, h2t⟩, h3, h4, h5⟩ := h
 refine (zHL h1).mono ?_
 rintro e w' ⟨rfl, hb⟩
 exact ⟨rfl, h'.below hb⟩
theorem CSz.load {w0 w : World} {b jb pb xb mb sb gb : Nat} {Z : Nat -> Prop} {n z : Nat} {op : Bool} {L : List ByteArray} {A : List (Nat × Nat)} {hn : Nat} {Tw T U : Nat -> En} {Bw B : Nat -> Bool} {Dw D : Nat -> ByteArray} (h : CSz w0 w b jb pb xb mb sb gb Z n z op L A hn Tw T U Bw B Dw D) (i : Nat) (hi : i < n) (d : ByteArray) (c : Nat) (hU : U i = some (d, c)) (t : ByteArray) (hD : D i = t) : Calls Tryz.prog 24 #[.pointer (some ⟨sb, 0, none⟩), .string d] w fun e w' => e = .returned (.tuple #[.string t, .int .i64 0]) /\ CSz w0 w' b jb pb xb mb sb gb Z n z op L A hn Tw T U Bw B Dw D /\ Kp Z w w' := by
 obtain ⟨S, eb, bm, Mw, Mn, h1, ⟨h2, h2k, h2t⟩, h3, h4, h5⟩ := h
 have hc := zJU h1 i hi d c hU
 rw [(h4.2 i hi).trans hD] at hc
 refine (hc).mono ?_
 rintro e w' ⟨rfl, k⟩
 have k' : zHx w0 w b jb pb xb eb bm mb sb (Yz mb sb gb Z) n S L A hn Mw Mn T U B w' := k
 refine ⟨rfl, CSz.kept h2 h2k h2t h3 h4 h5 k', ?_⟩
 obtain ⟨S', k1, k2, k3, k4⟩ := k'
 exact kp_x h1.ig.pk k4 (fun x hx => .inl (.inr (.inr (.inr hx))))
theorem CSz.mcount {w0 w : World} {b jb pb xb mb sb gb : Nat} {Z : Nat -> Prop} {n z : Nat} {op : Bool} {L : List ByteArray} {A : List (Nat × Nat)} {hn : Nat} {Tw T U : Nat -> En} {Bw B : Nat -> Bool} {Dw D : Nat -> ByteArray} (h : CSz w0 w b jb pb xb mb sb gb Z n z op L A hn Tw T U Bw B Dw D)  : Calls Tryz.prog 75 #[.pointer (some ⟨mb, 0, none⟩)] w fun e w' => e = .returned (.tuple #[.int .i64 ((lst B n).length : Int), .int .i64 0]) /\ CSz w0 w' b jb pb xb mb sb gb Z n z op L A hn Tw T U Bw B Dw D /\ Kp Z w w' := by
 obtain ⟨S, eb, bm, Mw, Mn, h1, ⟨h2, h2k, h2t⟩, h3, h4, h5⟩ := h
 refine (zJk h1.bg).mono ?_
 rintro e w' ⟨rfl, k⟩
 have k' : zHx w0 w b jb pb xb eb bm mb sb (Yz mb sb gb Z) n S L A hn Mw Mn T U B w' := h1.ofKept k
 refine ⟨rfl, CSz.kept h2 h2k h2t h3 h4 h5 k', ?_⟩
 obtain ⟨S', k1, k2, k3, k4⟩ := k'
 exact kp_x h1.ig.pk k4 (fun x hx => .inl (.inr (.inr (.inr hx))))
theorem CSz.mused {w0 w : World} {b jb pb xb mb sb gb : Nat} {Z : Nat -> Prop} {n z : Nat} {op : Bool} {L : List ByteArray} {A : List (Nat × Nat)} {hn : Nat} {Tw T U : Nat -> En} {Bw B : Nat -> Bool} {Dw D : Nat -> ByteArray} (h : CSz w0 w b jb pb xb mb sb gb Z n z op L A hn Tw T U Bw B Dw D) (i : Nat) (hi : i < n) : Calls Tryz.prog 76 #[.pointer (some ⟨mb, 0, none⟩), .int .i64 (i : Int)] w fun e w' => e = .returned (.tuple #[.bool (B i), .int .i64 0]) /\ CSz w0 w' b jb pb xb mb sb gb Z n z op L A hn Tw T U Bw B Dw D /\ Kp Z w w' := by
 obtain ⟨S, eb, bm, Mw, Mn, h1, ⟨h2, h2k, h2t⟩, h3, h4, h5⟩ := h
 refine (zKS h1.bg i hi).mono ?_
 rintro e w' ⟨rfl, k⟩
 have k' : zHx w0 w b jb pb xb eb bm mb sb (Yz mb sb gb Z) n S L A hn Mw Mn T U B w' := h1.ofKept k
 refine ⟨rfl, CSz.kept h2 h2k h2t h3 h4 h5 k', ?_⟩
 obtain ⟨S', k1, k2, k3, k4⟩ := k'
 exact kp_x h1.ig.pk k4 (fun x hx => .inl (.inr (.inr (.inr hx))))
theorem CSz.pread {w0 w : World} {b jb pb xb mb sb gb : Nat} {Z : Nat -> Prop} {n z : Nat} {op : Bool} {L : List ByteArray} {A : List (Nat × Nat)} {hn : Nat} {Tw T U : Nat -> En} {Bw B : Nat -> Bool} {Dw D : Nat -> ByteArray} (h : CSz w0 w b jb pb xb mb sb gb Z n z op L A hn Tw T U Bw B Dw D) (i : Nat) (hi : i < n) : Calls Tryz.prog 77 #[.pointer (some ⟨pb, 0, none⟩), .int .i64 ((30 + i : Nat) : Int)] w fun e w' => e = .returned (.tuple #[.string (D i), .int .i64 0]) /\ CSz w0 w' b jb pb xb mb sb gb Z n z op L A hn Tw T U Bw B Dw D /\ Kp Z w w' := by
 obtain ⟨S, eb, bm, Mw, Mn, h1, ⟨h2, h2k, h2t⟩, h3, h4, h5⟩ := h
 have hn24 := h1.n24
 obtain ⟨r1, r2, r3, r4, r5⟩ := h1.ig.seen.read (30 + i) (by omega) (by omega)
 have hc := zDw h1.ig.pk ((30 + i : Nat) : Int) (zCB h1.ig.seen.rst (30 + i) (by rw [h1.ig.seen.len]; omega) h1.ig.seen.siz)
 rw [r1, r2, h4.2 i hi] at hc
 refine hc.mono ?_
 rintro e w' ⟨rfl, K, hO⟩
 exact ⟨rfl, CSz.kept h2 h2k h2t h3 h4 h5 ⟨_, h1.next K hO r3 h1.ig.is h1.ig.ok h1.ms, r4, ⟨r5, (zCs h1.ig.seen.rst (30 + i) (by rw [h1.ig.seen.len]; omega)).2.2.2.2⟩, hO⟩, kp_x h1.ig.pk hO (fun x hx => .inl (.inr (.inr (.inr hx))))⟩
theorem CSz.each {w0 w : World} {b jb pb xb mb sb gb : Nat} {Z : Nat -> Prop} {n z : Nat} {op : Bool} {L : List ByteArray} {A : List (Nat × Nat)} {hn : Nat} {Tw T U : Nat -> En} {Bw B : Nat -> Bool} {Dw D : Nat -> ByteArray} (h : CSz w0 w b jb pb xb mb sb gb Z n z op L A hn Tw T U Bw B Dw D) : Calls Tryz.prog 69 #[.pointer (some ⟨xb, 0, none⟩)] w fun e w' => ∃ p cap, e = .returned (.slice p (lstE U n).length cap) /\ SlsB w.heap.size w' p U (lstE U n) /\ Below w.heap.size w w' := by
 obtain ⟨S, eb, bm, Mw, Mn, h1, ⟨h2, h2k, h2t⟩, h3, h4, h5⟩ := h
 exact zFd h1.ig.im h1.ig.oku (by have := h1.n24; omega)
end
section
open Go.RowKit Go.Maps Go.Sort Go.Shelf
def cnt (c : Nat -> Nat) (k : Nat) : Nat := ((List.range k).filter fun j => decide (0 < c j)).length
def tot (c : Nat -> Nat) (k : Nat) : Nat := ((List.range k).map c).sum
theorem zEo (c : Nat -> Nat) (k : Nat) : cnt c (k + 1) = cnt c k + (if 0 < c k then 1 else 0) := by
 unfold cnt
 rw [List.range_succ, List.filter_append, List.length_append]
 by_cases h : 0 < c k <;> simp [h]
theorem zEb (c : Nat -> Nat) (k : Nat) : tot c (k + 1) = tot c k + c k := by
 unfold tot
 rw [List.range_succ, List.map_append, List.sum_append]
 simp
theorem zKK (c : Nat -> Nat) (k : Nat) : cnt c k <= k := by
 induction k with
 | zero => exact Nat.le_refl _
 | succ k ih => rw [zEo]; split <;> omega
theorem zK1 (c : Nat -> Nat) (m : Nat) (h : ∀ j, c j <= m) (k : Nat) : tot c k <= k * m := by
 induction k with
 | zero => exact Nat.zero_le _
 | succ k ih => rw [zEb, Nat.succ_mul]; have := h k; omega
theorem zON {c l : Nat -> Nat} {k : Nat} (h : ∀ j, j < k -> l j = c j) : cnt l k = cnt c k := by
 induction k with
 | zero => rfl
 | succ k ih => rw [zEo, zEo, ih (fun j hj => h j (by omega)), h k (by omega)]
theorem zO5 {c l : Nat -> Nat} {k : Nat} (h : ∀ j, j < k -> l j = c j) : tot l k = tot c k := by
 induction k with
 | zero => rfl
 | succ k ih => rw [zEb, zEb, ih (fun j hj => h j (by omega)), h k (by omega)]
def Rw21 (w : World) (g : Nat) (l : Nat -> Nat) : Prop := ∀ j, j < 21 -> w.cell? ⟨g, j, none⟩ = some (.int .i64 (l j : Int))
theorem Rw21.kp {w w' : World} {g : Nat} {l : Nat -> Nat} {Z : Nat -> Prop} (h : Rw21 w g l) (k : Kp Z w w') (hz : Z g) : Rw21 w' g l := fun j hj => (World.cell?_of_block (a := ⟨g, j, none⟩) (k g hz)).trans (h j hj)
theorem zJ4 (g : Nat) (l : Nat -> Nat) (hl : ∀ j, l j <= 65535) (w : World) (hr : Rw21 w g l) : Calls Tryz.prog 27 #[.slice (some ⟨g, 0, none⟩) 21 21] w fun e w' => e = .returned (.tuple #[.int .i64 (cnt l 21 : Int), .int .i64 (tot l 21 : Int)]) /\ w' = w := by
 have HR := uB hr
 clear hr
 go_enter Tryz.func27, Tryz.ntmps27
 go_wp2
 go_loopw [4, 5, 6] (fun m a i wr => ∃ k : Nat, k <= 21 /\ m = .int .i64 (cnt l k : Int) /\ a = .int .i64 (tot l k : Int) /\ i = .int .i64 (k : Int) /\ wr = w) (fun _ _ i _ => 21 - (intOf i).toNat)
 case atStart => exact ⟨0, by omega, rfl, rfl, rfl, rfl⟩
 case round =>
  obtain ⟨k, hk, rfl, rfl, rfl, rfl⟩ := hrel
  have h1 := zKK l k
  have h2 := zK1 l 65535 hl k
  by_cases hkn : k < 21
  ·have hkn' : (k : Int) < 21 := by omega
   have hk0 : (0 : Int) <= (k : Int) := by omega
   have cg := uA HR k hkn
   have h3 := hl k
   have e1 := zEo l k
   have e2 := zEb l k
   have ht : tot l k <= 1376235 := by omega
   by_cases hp : 0 < l k
   ·rw [if_pos hp] at e1
    have HE := uB (And.intro e1 e2)
    have hp' : (0 : Int) < (l k : Int) := by omega
    clear e1 e2 h2
    generalize cnt l k = cc at *
    generalize tot l k = tt at *
    generalize l k = lk at *
    go_wp2
    go_roundw
    case rel => exact ⟨k + 1, by omega, by rw [(uA HE).1]; go_num, by rw [(uA HE).2]; go_num, by go_num, trivial⟩
    case measure => simp [intOf]; omega
   ·rw [if_neg hp] at e1
    have HE := uB (And.intro e1 e2)
    have hp' : ¬ (0 : Int) < (l k : Int) := by omega
    clear e1 e2 h2
    generalize cnt l k = cc at *
    generalize tot l k = tt at *
    generalize l k = lk at *
    go_wp2
    go_roundw
    case rel => exact ⟨k + 1, by omega, by rw [(uA HE).1]; go_num, by rw [(uA HE).2]; go_num, by go_num, trivial⟩
    case measure => simp [intOf]; omega
  ·have hke : k = 21 := by omega
   have hkn' : ¬ (k : Int) < 21 := by omega
   have HK := uB hke
   clear hke
   go_wp2
   go_ret2
   rw [uA HK]
   exact ⟨rfl, rfl⟩
structure Rp (T : Nat -> En) (B : Nat -> Bool) (D : Nat -> ByteArray) (c : Nat -> Nat) : Prop where
 hit : ∀ k, k < 21 -> 0 < c k -> ∃ p, p < 21 /\ T p = some (dgB (bkB k), c k) /\ D p = bkB k
 mis : ∀ k, k < 21 -> c k = 0 -> ∀ p cc, T p ≠ some (dgB (bkB k), cc)
 own : ∀ p d cc, T p = some (d, cc) -> ∃ k, k < 21 /\ d = dgB (bkB k) /\ cc = c k /\ D p = bkB k
 bit : ∀ p, p < 21 -> B p = (T p).isSome
 le : ∀ k, c k <= 65535
theorem zNz {T : Nat -> En} {B : Nat -> Bool} (h : ∀ p, p < 21 -> B p = (T p).isSome) : (lst B 21).length = (lstE T 21).length := by
 unfold lst lstN lstE
 rw [List.length_map]
 congr 1
 exact List.filter_congr (fun p hp => h p (List.mem_range.1 hp))
theorem zH2 (c : Nat -> Nat) : ∀ l : List Nat, ((l.filter fun j => decide (0 < c j)).map c).sum = (l.map c).sum
 | [] => rfl
 | a :: l => by
  by_cases h : 0 < c a
  ·rw [List.filter_cons_of_pos (by simpa using h), List.map_cons, List.map_cons, List.sum_cons, List.sum_cons, zH2 c l]
  ·rw [List.filter_cons_of_neg (by simpa using h), List.map_cons, List.sum_cons, zH2 c l]
   omega
theorem Rp.perm {T : Nat -> En} {B : Nat -> Bool} {D : Nat -> ByteArray} {c : Nat -> Nat} (h : Rp T B D c) (hT : TOk 21 T) : ∃ kf : Nat -> Nat, (∀ p d cc, T p = some (d, cc) -> kf p < 21 /\ d = dgB (bkB (kf p)) /\ cc = c (kf p) /\ D p = bkB (kf p)) /\ ((lstE T 21).map kf).Perm ((List.range 21).filter fun j => decide (0 < c j)) := by
 have h0 : ∀ p, ∃ k, ∀ d cc, T p = some (d, cc) -> k < 21 /\ d = dgB (bkB k) /\ cc = c k /\ D p = bkB k := fun p => by
  cases e : T p with
  | none => exact ⟨0, fun d cc q => by cases q⟩
  | some x =>
   obtain ⟨k, hk⟩ := h.own p x.1 x.2 e
   exact ⟨k, fun d cc q => by cases q; exact hk⟩
 obtain ⟨kf, hk⟩ := Classical.skolem.1 h0
 refine ⟨kf, hk, (List.perm_ext_iff_of_nodup ?_ ?_).2 (fun a => ?_)⟩
 ·refine List.pairwise_map.2 ((List.Pairwise.filter _ (List.nodup_range (n := 21))).imp_of_mem (fun {p q} hp hq hne e => hne ?_))
  obtain ⟨x, hx⟩ := Option.isSome_iff_exists.1 (List.mem_filter.1 hp).2
  obtain ⟨y, hy⟩ := Option.isSome_iff_exists.1 (List.mem_filter.1 hq).2
  have k1 := (hk p x.1 x.2 hx).2.1
  have k2 := (hk q y.1 y.2 hy).2.1
  refine hT.one p q x.1 x.2 y.2 hx ?_
  rw [hy, k1, e, <- k2]
 ·exact List.Pairwise.filter _ (List.nodup_range (n := 21))
 ·refine ⟨fun ha => ?_, fun ha => ?_⟩
  ·obtain ⟨p, hp, rfl⟩ := List.mem_map.1 ha
   obtain ⟨x, hx⟩ := Option.isSome_iff_exists.1 (List.mem_filter.1 hp).2
   obtain ⟨k1, _, k3, _⟩ := hk p x.1 x.2 hx
   have := (hT.ok p x.1 x.2 hx).2.1
   exact List.mem_filter.2 ⟨List.mem_range.2 k1, decide_eq_true (by omega)⟩
  ·obtain ⟨h1, h2⟩ := List.mem_filter.1 ha
   have h1' := List.mem_range.1 h1
   obtain ⟨p, hp, hTp, _⟩ := h.hit a h1' (of_decide_eq_true h2)
   refine List.mem_map.2 ⟨p, List.mem_filter.2 ⟨List.mem_range.2 hp, by rw [hTp]; rfl⟩, ?_⟩
   obtain ⟨k1, k2, _⟩ := hk p _ _ hTp
   rcases Nat.decEq (kf p) a with q | q
   ·exact absurd k2.symm (zNe (kf p) a k1 h1' q)
   ·exact q
theorem Rp.len {T : Nat -> En} {B : Nat -> Bool} {D : Nat -> ByteArray} {c : Nat -> Nat} (h : Rp T B D c) (hT : TOk 21 T) : (lstE T 21).length = cnt c 21 := by
 obtain ⟨kf, _, hp⟩ := h.perm hT
 have := hp.length_eq
 rw [List.length_map] at this
 exact this
def enN (T : Nat -> En) (p : Nat) : Nat := match T p with | some (_, cc) => cc | none => 0
theorem Rp.sum {T : Nat -> En} {B : Nat -> Bool} {D : Nat -> ByteArray} {c : Nat -> Nat} (h : Rp T B D c) (hT : TOk 21 T) : ((lstE T 21).map (enN T)).sum = tot c 21 := by
 obtain ⟨kf, hk, hp⟩ := h.perm hT
 have e1 : (lstE T 21).map (enN T) = ((lstE T 21).map kf).map c := by
  rw [List.map_map]
  refine List.map_congr_left (fun p hp => ?_)
  obtain ⟨x, hx⟩ := Option.isSome_iff_exists.1 (List.mem_filter.1 hp).2
  unfold enN
  rw [hx]
  exact (hk p x.1 x.2 hx).2.2.1
 rw [e1, (hp.map c).sum_nat, zH2]
 rfl
end
end Go.Proofs.YtdpnbemagiekoaaGreatDoor
