import Derived.Test.YtdpnbemagiekoaaGreatDoorMe32
import Derived.Maps.RangeWalk
set_option maxHeartbeats 2000000
set_option maxRecDepth 100000
namespace Go.Proofs.YtdpnbemagiekoaaGreatDoor
section
open Go.RowKit Go.Maps Go.Sort Go.Shelf
theorem zLA {w0 w : World} {b jb pb xb eb bm mb sb : Nat} {Y : Nat -> Prop} {n : Nat} {S : PS} {L : List ByteArray} {A : List (Nat × Nat)} {hn : Nat} {Mw Mn : List ByteArray} {T : Nat -> En} {B : Nat -> Bool} {e0 e1 e2 : Addr} (h : CG w0 w b jb pb xb eb bm mb sb Y n S L A hn Mw Mn T T B) (ho : S.op = true) (hK : KTab w0) (hs : Snt w0 e0 e1 e2) (t : ByteArray) (ht : t.size = 256) (i : Nat) (hi : i < n) (c : Nat) (hc : c <= 65534) (hT : T i = some (dgB t, c)) (hr : zAQ S ((20 + i / 6 : Nat) : Int) = true) (hD : Mn.getD (30 + i) ByteArray.empty = t) : Calls Tryz.prog 42 #[.pointer (some ⟨sb, 0, none⟩), .string t] w fun e w' => e = .returned (.tuple #[.string (dgB t), .bool false, .nilIface]) /\ CChg w0 w b jb pb xb eb bm mb sb Y n S L A hn Mw Mn [20 + i / 6] (upd T i (some (dgB t, c + 1))) (upd T i (some (dgB t, c + 1))) B (fun _ => True) w' := by
 have HD := uB (zBK t ht w (hK.below h.bel hK.1))
 have hdd : (dgB t).size = 32 := zFL t
 generalize dgB t = d at *
 have X0 := uB (And.intro h (And.intro ho hs))
 clear h ho hs hK
 go_enter Tryz.func42, Tryz.ntmps42
 go_wp2_with fail
 refine (uA HD).mono ?_
 rintro e x1 ⟨rfl, hb1⟩
 obtain ⟨h, ho, hs⟩ := uA X0
 have HF := uB (zGh (h.below hb1) ho hs i hi d c hT)
 try simp only [Int.cast_ofNat_Int] at HF
 have X1 := uB hb1
 clear h ho hs hb1 HD
 go_wp2_with fail
 refine (uA HF).mono ?_
 rintro e x2 ⟨rfl, G2, O2⟩
 obtain ⟨h, ho, hs⟩ := uA X0
 obtain ⟨g, hg⟩ : ∃ q, x2.heap.size = q := ⟨_, rfl⟩
 obtain ⟨x3, hx3⟩ : ∃ q, x2.alloc (.cells #[.int .i64 (i : Int), .string d, .int .i64 (c : Int)] 40) = q := ⟨_, rfl⟩
 have hb3 : Below x2.heap.size x2 x3 := by rw [<- hx3]; exact (Below.refl _ x2).alloc (Nat.le_refl _) _
 have B3 : Blk x3 g #[.int .i64 (i : Int), .string d, .int .i64 (c : Int)] 40 := by rw [<- hx3, <- hg]; exact Blk.new x2 _ _
 have G3 := G2.below hb3
 have OX : Only (fun x => ¬ Xf Y xb eb bm x) w x3 := ((Only.of_below (P := fun x => ¬ Xf Y xb eb bm x) (uA X1)).trans O2 (fun _ _ q => q)).trans (Only.of_below (P := fun x => ¬ Xf Y xb eb bm x) hb3) (fun _ _ q => q)
 have hs3 : Snt x3 e0 e1 e2 := hs.below G3.bel
 have a0 : x3.cell? ⟨g, 0, none⟩ = _ := B3.cell 0
 have a1 : x3.cell? ⟨g, 1, none⟩ = _ := B3.cell 1
 have a2 : x3.cell? ⟨g, 2, none⟩ = _ := B3.cell 2
 have g0 := hs3.g0
 simp only [List.getElem?_toArray, List.getElem?_cons_zero, List.getElem?_cons_succ] at a0 a1 a2
 have HA := uB (zKR G3 hs i hi d c ho hc hT hr t hD)
 have X3 := uB (And.intro G3 OX)
 clear h ho hs G2 O2 B3 hb3 G3 OX hs3 HF X0 X1
 clear hT hr hD hi
 go_wp2_with fail
 refine (uA HA).mono ?_
 rintro e x4 ⟨rfl, k⟩
 have X4 := uB (CChg.from ((uA X3).2.mono (fun x _ q r => q (.inl r))) k)
 clear k HA
 go_wp2
 go_ret3
 exact ⟨rfl, uA X4⟩
theorem zLC {w0 w : World} {b jb pb xb eb bm mb sb : Nat} {Y : Nat -> Prop} {n : Nat} {S : PS} {L : List ByteArray} {A : List (Nat × Nat)} {hn : Nat} {Mw Mn : List ByteArray} {T : Nat -> En} {B : Nat -> Bool} {e0 e1 e2 : Addr} (h : CG w0 w b jb pb xb eb bm mb sb Y n S L A hn Mw Mn T T B) (ho : S.op = true) (hK : KTab w0) (hs : Snt w0 e0 e1 e2) (t : ByteArray) (ht : t.size = 256) (p : Nat) (hl : Lea B n p) (hT : ∀ j c, T j ≠ some (dgB t, c)) (hz : S.tx.length <= 13) : Calls Tryz.prog 42 #[.pointer (some ⟨sb, 0, none⟩), .string t] w fun e w' => e = .returned (.tuple #[.string (dgB t), .bool true, .nilIface]) /\ CChg w0 w b jb pb xb eb bm mb sb Y n S L A hn Mw Mn [19, 30 + p, 20 + p / 6] (upd T p (some (dgB t, 1))) (upd T p (some (dgB t, 1))) (flp B p) (fun M => M.getD (30 + p) ByteArray.empty = t) w' := by
 have HD := uB (zBK t ht w (hK.below h.bel hK.1))
 have hdd : (dgB t).size = 32 := zFL t
 generalize dgB t = d at *
 have X0 := uB (And.intro h (And.intro ho hs))
 clear h ho hs hK
 go_enter Tryz.func42, Tryz.ntmps42
 go_wp2_with fail
 refine (uA HD).mono ?_
 rintro e x1 ⟨rfl, hb1⟩
 obtain ⟨h, ho, hs⟩ := uA X0
 have HF := uB (zKj (h.below hb1) ho hs d hdd hT)
 try simp only [Int.cast_ofNat_Int] at HF
 have X1 := uB hb1
 clear h ho hs hb1 HD
 go_wp2_with fail
 refine (uA HF).mono ?_
 rintro e x2 ⟨rfl, G2, O2⟩
 obtain ⟨h, ho, hs⟩ := uA X0
 obtain ⟨g, hg⟩ : ∃ q, x2.heap.size = q := ⟨_, rfl⟩
 obtain ⟨x3, hx3⟩ : ∃ q, x2.alloc (.cells #[.int .i64 0, .string ⟨#[]⟩, .int .i64 0] 40) = q := ⟨_, rfl⟩
 have hb3 : Below x2.heap.size x2 x3 := by rw [<- hx3]; exact (Below.refl _ x2).alloc (Nat.le_refl _) _
 have B3 : Blk x3 g #[.int .i64 0, .string ⟨#[]⟩, .int .i64 0] 40 := by rw [<- hx3, <- hg]; exact Blk.new x2 _ _
 have G3 := G2.below hb3
 have OX : Only (fun x => ¬ Xf Y xb eb bm x) w x3 := ((Only.of_below (P := fun x => ¬ Xf Y xb eb bm x) (uA X1)).trans O2 (fun _ _ q => q)).trans (Only.of_below (P := fun x => ¬ Xf Y xb eb bm x) hb3) (fun _ _ q => q)
 have hs3 : Snt x3 e0 e1 e2 := hs.below G3.bel
 have a0 : x3.cell? ⟨g, 0, none⟩ = _ := B3.cell 0
 have a1 : x3.cell? ⟨g, 1, none⟩ = _ := B3.cell 1
 have a2 : x3.cell? ⟨g, 2, none⟩ = _ := B3.cell 2
 have g0 := hs3.g0
 simp only [List.getElem?_toArray, List.getElem?_cons_zero, List.getElem?_cons_succ] at a0 a1 a2
 have p0 := B3.frozen 0
 have p1 := B3.frozen 1
 have p2 := B3.frozen 2
 obtain ⟨x4, hx4⟩ : ∃ q, ((x3.setCell ⟨g, 0, none⟩ (.int .i64 0)).setCell ⟨g, 1, none⟩ (.string ⟨#[]⟩)).setCell ⟨g, 2, none⟩ (.int .i64 0) = q := ⟨_, rfl⟩
 have O4 : Only (fun x => x = g) x3 x4 := by rw [<- hx4]; exact (((Only.refl (fun x => x = g) x3).setCell ⟨g, 0, none⟩ (.int .i64 0) (fun _ => rfl)).setCell ⟨g, 1, none⟩ (.string ⟨#[]⟩) (fun _ => rfl)).setCell ⟨g, 2, none⟩ (.int .i64 0) (fun _ => rfl)
 have G4 : CG w0 x4 b jb pb xb eb bm mb sb Y n S L A hn Mw Mn T T B := (G2.more (Z := fun x => Y x ∨ x = g) hb3 (fun x q => q.imp_right (fun e => by rw [e, hg]; exact ⟨Nat.le_refl _, B3.lt⟩)) (.inl h.ym) (.inl h.ys)).poke1 (G2.away hg) O4
 have OX4 : Only (fun x => ¬ Xf Y xb eb bm x) w x4 := OX.trans O4 (fun x hx q r => by rw [q] at hx r; exact absurd (G2.ig.pk.lt g r) (by rw [hg]; exact Nat.lt_irrefl g))
 have hs4 : Snt x4 e0 e1 e2 := hs.below G4.bel
 have g0' := hs4.g0
 have HA := uB (zHR G4 ho p hl d hdd hT t ht hz)
 have HI := uB (zJ3 e0 x4)
 have X3' := uB (And.intro G4 OX4)
 clear G4 OX4 hs4 O4
 have X3 := uB (And.intro G3 OX)
 clear h ho hs G2 O2 B3 hb3 G3 OX hs3 HF X0 X1
 clear hT hl hz ht
 go_wp2_with fail
 refine (uA HI).mono ?_
 rintro e w' ⟨rfl, hw'⟩
 subst w'
 clear HI
 go_wp2_with fail
 refine (uA HA).mono ?_
 rintro e x4 ⟨rfl, k⟩
 have X4 := uB (CChg.from ((uA X3').2.mono (fun x _ q r => q (.inl r))) k)
 clear k HA
 go_wp2
 go_ret3
 exact ⟨rfl, uA X4⟩
end
section
open Go.RowKit Go.Maps Go.Sort Go.Shelf
theorem zLg {w0 w : World} {b jb pb xb eb bm mb sb : Nat} {Y : Nat -> Prop} {n : Nat} {S : PS} {L : List ByteArray} {A : List (Nat × Nat)} {hn : Nat} {Mw Mn : List ByteArray} {T : Nat -> En} {B : Nat -> Bool} {e0 e1 e2 : Addr} (h : CG w0 w b jb pb xb eb bm mb sb Y n S L A hn Mw Mn T T B) (ho : S.op = true) (hK : KTab w0) (hs : Snt w0 e0 e1 e2) (t : ByteArray) (ht : t.size = 256) (i : Nat) (hi : i < n) (c : Nat) (hc : c <= 65534) (hT : T i = some (dgB t, c)) (hr : zAQ S ((20 + i / 6 : Nat) : Int) = true) (hD : Mn.getD (30 + i) ByteArray.empty = t) : Calls Tryz.prog 12 #[.pointer (some ⟨sb, 0, none⟩), .string t] w fun e w' => e = .returned (.tuple #[.string (dgB t), .bool false, .int .i64 0]) /\ CChg w0 w b jb pb xb eb bm mb sb Y n S L A hn Mw Mn [20 + i / 6] (upd T i (some (dgB t, c + 1))) (upd T i (some (dgB t, c + 1))) B (fun _ => True) w' := by
 have HS := uB (zLA h ho hK hs t ht i hi c hc hT hr hD)
 generalize dgB t = d at *
 clear h ho hK hs
 go_enter Tryz.func12, Tryz.ntmps12
 go_wp2_with fail
 refine (uA HS).mono ?_
 rintro e x1 ⟨rfl, k⟩
 have X1 := uB k
 clear k HS
 go_wp2
 go_ret3
 exact ⟨rfl, uA X1⟩
theorem zKO {w0 w : World} {b jb pb xb eb bm mb sb : Nat} {Y : Nat -> Prop} {n : Nat} {S : PS} {L : List ByteArray} {A : List (Nat × Nat)} {hn : Nat} {Mw Mn : List ByteArray} {T : Nat -> En} {B : Nat -> Bool} {e0 e1 e2 : Addr} (h : CG w0 w b jb pb xb eb bm mb sb Y n S L A hn Mw Mn T T B) (ho : S.op = true) (hK : KTab w0) (hs : Snt w0 e0 e1 e2) (t : ByteArray) (ht : t.size = 256) (p : Nat) (hl : Lea B n p) (hT : ∀ j c, T j ≠ some (dgB t, c)) (hz : S.tx.length <= 13) : Calls Tryz.prog 12 #[.pointer (some ⟨sb, 0, none⟩), .string t] w fun e w' => e = .returned (.tuple #[.string (dgB t), .bool true, .int .i64 0]) /\ CChg w0 w b jb pb xb eb bm mb sb Y n S L A hn Mw Mn [19, 30 + p, 20 + p / 6] (upd T p (some (dgB t, 1))) (upd T p (some (dgB t, 1))) (flp B p) (fun M => M.getD (30 + p) ByteArray.empty = t) w' := by
 have HS := uB (zLC h ho hK hs t ht p hl hT hz)
 generalize dgB t = d at *
 clear h ho hK hs
 go_enter Tryz.func12, Tryz.ntmps12
 go_wp2_with fail
 refine (uA HS).mono ?_
 rintro e x1 ⟨rfl, k⟩
 have X1 := uB k
 clear k HS
 go_wp2
 go_ret3
 exact ⟨rfl, uA X1⟩
theorem zJJ {w0 w : World} {b jb pb xb eb bm mb sb : Nat} {Y : Nat -> Prop} {n : Nat} {S : PS} {L : List ByteArray} {A : List (Nat × Nat)} {hn : Nat} {Mw Mn : List ByteArray} {T : Nat -> En} {B : Nat -> Bool} {e0 e1 e2 : Addr} (h : CG w0 w b jb pb xb eb bm mb sb Y n S L A hn Mw Mn T T B) (ho : S.op = true) (hs : Snt w0 e0 e1 e2) (i : Nat) (hi : i < n) (d : ByteArray) (c : Nat) (hc : 2 <= c) (hT : T i = some (d, c)) (hr : zAQ S ((20 + i / 6 : Nat) : Int) = true) : Calls Tryz.prog 20 #[.pointer (some ⟨sb, 0, none⟩), .string d] w fun e w' => e = .returned (.tuple #[.bool false, .int .i64 0]) /\ CChg w0 w b jb pb xb eb bm mb sb Y n S L A hn Mw Mn [20 + i / 6] (upd T i (some (d, c - 1))) (upd T i (some (d, c - 1))) B (fun _ => True) w' := by
 have HF := uB (zGh h ho hs i hi d c hT)
 try simp only [Int.cast_ofNat_Int] at HF
 have X0 := uB (And.intro h (And.intro ho hs))
 clear h ho hs
 go_enter Tryz.func20, Tryz.ntmps20
 go_wp2_with fail
 refine (uA HF).mono ?_
 rintro e x2 ⟨rfl, G2, O2⟩
 obtain ⟨h, ho, hs⟩ := uA X0
 obtain ⟨g, hg⟩ : ∃ q, x2.heap.size = q := ⟨_, rfl⟩
 obtain ⟨x3, hx3⟩ : ∃ q, x2.alloc (.cells #[.int .i64 (i : Int), .string d, .int .i64 (c : Int)] 40) = q := ⟨_, rfl⟩
 have hb3 : Below x2.heap.size x2 x3 := by rw [<- hx3]; exact (Below.refl _ x2).alloc (Nat.le_refl _) _
 have B3 : Blk x3 g #[.int .i64 (i : Int), .string d, .int .i64 (c : Int)] 40 := by rw [<- hx3, <- hg]; exact Blk.new x2 _ _
 have G3 := G2.below hb3
 have OX : Only (fun x => ¬ Xf Y xb eb bm x) w x3 := O2.trans (Only.of_below (P := fun x => ¬ Xf Y xb eb bm x) hb3) (fun _ _ q => q)
 have hs3 : Snt x3 e0 e1 e2 := hs.below G3.bel
 have a0 : x3.cell? ⟨g, 0, none⟩ = some (.int .i64 (i : Int)) := B3.cell 0
 have a1 : x3.cell? ⟨g, 1, none⟩ = some (.string d) := B3.cell 1
 have a2 : x3.cell? ⟨g, 2, none⟩ = some (.int .i64 (c : Int)) := B3.cell 2
 have HC := uB (zGl G3 ho i hi d c hc hT hr)
 have h1 : ((c : Int) == 1) = false := by simp; omega
 have X3 := uB OX
 clear h ho hs G2 O2 B3 hb3 G3 OX hs3 HF X0 hT hr hi
 go_wp2_with fail
 refine (uA HC).mono ?_
 rintro e x4 ⟨rfl, k⟩
 have X4 := uB (CChg.from ((uA X3).mono (fun x _ q r => q (.inl r))) k)
 clear k HC
 go_wp2
 go_ret2
 exact ⟨rfl, uA X4⟩
theorem zIZ {w0 w : World} {b jb pb xb eb bm mb sb : Nat} {Y : Nat -> Prop} {n : Nat} {S : PS} {L : List ByteArray} {A : List (Nat × Nat)} {hn : Nat} {Mw Mn : List ByteArray} {T U : Nat -> En} {B : Nat -> Bool} (h : CG w0 w b jb pb xb eb bm mb sb Y n S L A hn Mw Mn T U B) (i : Nat) (hi : i < n) (d : ByteArray) (c : Nat) (hU : U i = some (d, c)) : Calls Tryz.prog 17 #[.pointer (some ⟨sb, 0, none⟩), .string d] w fun e w' => e = .returned (.int .i64 (c : Int)) /\ Below w.heap.size w w' := by
 have HF := uB (zEC h i hi d c hU)
 clear h hi hU
 go_enter Tryz.func17, Tryz.ntmps17
 go_wp2_with fail
 refine (uA HF).mono ?_
 rintro e x2 ⟨rfl, hb2⟩
 obtain ⟨g, hg⟩ : ∃ q, x2.heap.size = q := ⟨_, rfl⟩
 obtain ⟨x3, hx3⟩ : ∃ q, x2.alloc (.cells #[.int .i64 (i : Int), .string d, .int .i64 (c : Int)] 40) = q := ⟨_, rfl⟩
 have hb3 : Below x2.heap.size x2 x3 := by rw [<- hx3]; exact (Below.refl _ x2).alloc (Nat.le_refl _) _
 have B3 : Blk x3 g #[.int .i64 (i : Int), .string d, .int .i64 (c : Int)] 40 := by rw [<- hx3, <- hg]; exact Blk.new x2 _ _
 have a2 : x3.cell? ⟨g, 2, none⟩ = some (.int .i64 (c : Int)) := B3.cell 2
 have X3 := uB (hb2.trans (hb3.mono hb2.size))
 clear hb2 hb3 B3 HF
 go_wp2
 go_ret
 exact ⟨rfl, uA X3⟩
end
section
open Go.RowKit Go.Maps Go.Sort Go.Shelf
def Pcl (b pb mb xb sb : Nat) : Array Value := #[.pointer (some ⟨b, 0, none⟩), .pointer (some ⟨pb, 0, none⟩), .pointer (some ⟨mb, 0, none⟩), .pointer (some ⟨xb, 0, none⟩), .pointer (some ⟨sb, 0, none⟩)]
def Yc (mb sb gb : Nat) : Nat -> Prop := fun x => x = mb ∨ x = sb ∨ x = gb
def TxC (S : PS) (z : Nat) : Prop := ∃ Z : List Int, Z.length <= z /\ ∀ p ∈ S.tx, (19 <= p.1 /\ p.1 < 24) ∨ p.1 ∈ Z
theorem TxC.len {S : PS} {z : Nat} (h : TxC S z) (hs : Srt S.tx) : S.tx.length <= 5 + z := by
 obtain ⟨Z, h1, h2⟩ := h
 have h3 : (S.tx.map (·.1)).Nodup := List.pairwise_map.2 (hs.imp (fun q => by omega))
 have h4 := zC4 (S.tx.map (·.1)) ([19, 20, 21, 22, 23] ++ Z) h3 (fun x hx => by
  obtain ⟨p, hp, rfl⟩ := List.mem_map.1 hx
  rcases h2 p hp with q | q
  ·refine List.mem_append.2 (.inl ?_)
   have : p.1 = 19 ∨ p.1 = 20 ∨ p.1 = 21 ∨ p.1 = 22 ∨ p.1 = 23 := by omega
   rcases this with e | e | e | e | e <;> rw [e] <;> decide
  ·exact List.mem_append.2 (.inr q))
 rw [List.length_map, List.length_append] at h4
 simp only [List.length_cons, List.length_nil] at h4
 omega
theorem TxC.room {S : PS} {z : Nat} (h : TxC S z) (hs : Srt S.tx) (hz : z <= 10) (i : Int) : zAQ S i = true := by
 have := h.len hs
 unfold zAQ
 rw [Bool.or_eq_true]
 exact .inr (decide_eq_true (by omega))
def CSt (w0 w : World) (b jb pb xb mb sb gb n z : Nat) (op : Bool) (L : List ByteArray) (A : List (Nat × Nat)) (hn : Nat) (Tw T U : Nat -> En) (Bw B : Nat -> Bool) (Dw D : Nat -> ByteArray) : Prop :=
 ∃ S eb bm Mw Mn, CG w0 w b jb pb xb eb bm mb sb (Yc mb sb gb) n S L A hn Mw Mn T U B /\ (S.op = op /\ S.keep = 4 /\ TxC S z) /\ (IS Mw 20 n Tw /\ TOk n Tw /\ MS Mw 19 n Bw) /\ ((∀ i, i < n -> Mw.getD (30 + i) ByteArray.empty = Dw i) /\ (∀ i, i < n -> Mn.getD (30 + i) ByteArray.empty = D i)) /\ Blk w gb (Pcl b pb mb xb sb) 32
end
section
open Go.RowKit Go.Maps Go.Sort Go.Shelf
end
section
open Go.RowKit Go.Maps Go.Sort Go.Shelf
end
section
open Go.RowKit Go.Maps Go.Sort Go.Shelf
def slC (i : Nat) : En -> List Value
 | none => [.int .i64 0, .string ⟨#[]⟩, .int .i64 0]
 | some (d, c) => [.int .i64 (i : Int), .string d, .int .i64 (c : Int)]
theorem zHX (i : Nat) (e : En) : (slC i e).length = 3 := by cases e <;> rfl
end
section
open Go.RowKit Go.Maps Go.Sort Go.Shelf
end
section
open Go.RowKit Go.Maps Go.Sort Go.Shelf
def lstE (T : Nat -> En) (n : Nat) : List Nat := (List.range n).filter fun i => (T i).isSome
def lstI (T : Nat -> En) (n : Nat) : List Int := (lstE T n).map fun i : Nat => (i : Int)
structure Coll (D : DataW Unit) (T : Nat -> En) (left : Lit -> Bool) (l : List Int) : Prop where
 nd : l.Nodup
 mem : ∀ x, x ∈ l ↔ ∃ (i : Nat) (d : ByteArray) (c : Nat), T i = some (d, c) /\ x = (i : Int) /\ left (.string d.data.toList) = false
theorem zJz {D : DataW Unit} {T : Nat -> En} (h : PD D T) : Coll D T (has D) [] := by
 refine ⟨List.nodup_nil, fun x => ⟨fun q => (by cases q), fun ⟨i, d, c, hi, _, hl⟩ => ?_⟩⟩
 rw [(h.2 i d c hi).1] at hl
 cases hl
theorem zKe {D : DataW Unit} {T : Nat -> En} {n : Nat} {left : Lit -> Bool} {l : List Int} (h : PD D T) (hT : TOk n T) (hc : Coll D T left l) {kl : Lit} {c : Int} (hl : left kl = true) (hat : ∀ zd, D.atKey kl zd = .lit (.int .i64 c)) :
  Coll D T (fun z => left z && !z.sameKey kl) (l ++ [c]) /\ ∃ i : Nat, c = (i : Int) /\ i < n := by
 have hh : has D kl = true := has_true_of_atKey hat
 obtain ⟨i, d, cc, hi, rfl⟩ := h.1 kl hh
 have hci : c = (i : Int) := by
  have := (hat .nil).symm.trans ((h.2 i d cc hi).2 .nil)
  simpa using this
 subst hci
 refine ⟨⟨?_, fun x => ?_⟩, i, rfl, hT.lt hi⟩
 ·rw [List.nodup_append]
  refine ⟨hc.nd, by simp, fun a ha b hb e => ?_⟩
  simp at hb
  subst hb e
  obtain ⟨i', d', c', hi', e', hl'⟩ := (hc.mem _).1 ha
  have : i = i' := by omega
  subst this
  rw [hi] at hi'
  obtain ⟨rfl, rfl⟩ : d = d' /\ cc = c' := by simpa using hi'
  rw [hl] at hl'
  cases hl'
 ·constructor
  ·intro hx
   rcases List.mem_append.1 hx with q | q
   ·obtain ⟨i', d', c', hi', e', hl'⟩ := (hc.mem x).1 q
    exact ⟨i', d', c', hi', e', by simp [hl']⟩
   ·simp at q
    exact ⟨i, d, cc, hi, q, by simp [WideAt.sameKey_self (zH7 _)]⟩
  ·rintro ⟨i', d', c', hi', e', hl'⟩
   by_cases e : i' = i
   ·subst e
    exact List.mem_append.2 (.inr (by simp [e']))
   ·refine List.mem_append.2 (.inl ((hc.mem x).2 ⟨i', d', c', hi', e', ?_⟩))
    have hne : (Lit.string d'.data.toList).sameKey (.string d.data.toList) = false := by
     cases hq : (Lit.string d'.data.toList).sameKey (.string d.data.toList) with
     | false => rfl
     | true =>
      have := zEf (WideAt.sameKey_eq hq)
      subst this
      exact absurd (hT.one i' i d' c' cc hi' hi) e
    simpa [hne] using hl'
theorem zMR {D : DataW Unit} {T : Nat -> En} {n : Nat} {left : Lit -> Bool} {l : List Int} (hT : TOk n T) (hc : Coll D T left l) : l.length <= n := by
 have := zC4 l ((List.range n).map fun i : Nat => (i : Int)) hc.nd (fun x hx => by
  obtain ⟨i, d, c, hi, e, _⟩ := (hc.mem x).1 hx
  exact List.mem_map.2 ⟨i, List.mem_range.2 (hT.lt hi), e.symm⟩)
 simpa using this
theorem zMh (T : Nat -> En) (n : Nat) (hT : TOk n T) (x : Int) : x ∈ lstI T n ↔ ∃ (i : Nat) (d : ByteArray) (c : Nat), T i = some (d, c) /\ x = (i : Int) := by
 unfold lstI lstE
 constructor
 ·intro h
  obtain ⟨i, hi, rfl⟩ := List.mem_map.1 h
  obtain ⟨_, q⟩ := List.mem_filter.1 hi
  obtain ⟨p, hp⟩ := Option.isSome_iff_exists.1 q
  exact ⟨i, p.1, p.2, hp, rfl⟩
 ·rintro ⟨i, d, c, hi, rfl⟩
  exact List.mem_map.2 ⟨i, List.mem_filter.2 ⟨List.mem_range.2 (hT.lt hi), by rw [hi]; rfl⟩, rfl⟩
theorem zEy (T : Nat -> En) (n : Nat) : (lstI T n).Pairwise (fun x y => x < y) := by
 unfold lstI lstE
 refine List.pairwise_map.2 ((List.pairwise_lt_range (n := n)).filter _ |>.imp (fun h => by omega))
theorem zM4 {D : DataW Unit} {T : Nat -> En} {n : Nat} {left : Lit -> Bool} {l : List Int} (hT : TOk n T) (hc : Coll D T left l) (hl : ∀ kl, left kl = false) : (l.mergeSort fun x y => decide (x <= y)) = lstI T n /\ l.length = (lstI T n).length := by
 have hperm : l.Perm (lstI T n) := by
  refine (List.perm_ext_iff_of_nodup hc.nd ((zEy T n).imp (fun h => by omega))).2 (fun x => ?_)
  rw [hc.mem x, zMh T n hT]
  exact ⟨fun ⟨i, d, c, h1, h2, _⟩ => ⟨i, d, c, h1, h2⟩, fun ⟨i, d, c, h1, h2⟩ => ⟨i, d, c, h1, h2, hl _⟩⟩
 refine ⟨?_, hperm.length_eq⟩
 refine List.Perm.eq_of_pairwise (le := fun x y : Int => x <= y) (fun a b _ _ h1 h2 => by omega) ?_ ((zEy T n).imp (fun h => by omega)) ((List.mergeSort_perm _ _).trans hperm)
 have := List.pairwise_mergeSort (le := fun x y : Int => decide (x <= y)) (fun a b c h1 h2 => by simp at h1 h2 ⊢; omega) (fun a b => by simp; omega) l
 exact this.imp (fun h => by simpa using h)
def RisI (w : World) (bm r n : Nat) (D : DataW Unit) (T : Nat -> En) (u : Value) (wr : World) : Prop :=
 ∃ left cnt l, wr.ranges Tryz.prog 99 (plainElem Tryz.prog 3) bm r n D left cnt /\ Coll D T left l /\ l.length <= n /\ wr.ownsRow w.heap.size 3 1 u l.length (l.map (Value.int .i64)) /\ (∀ k, u.ownBlock = some k -> k ≠ r) /\ Below w.heap.size w wr
theorem zGy {w : World} {b r n cnt : Nat} {D : DataW Unit} {left : Lit -> Bool} {g : Nat} {cur : Array Value} {U : TypeId} (h : w.ranges Tryz.prog 99 (plainElem Tryz.prog 3) b r n D left cnt) (hb : Blk w g cur U) : g ≠ b /\ g ≠ r := by
 obtain ⟨es, clock, since, seen, c0, h1, _, _, _, h2, _⟩ := h
 constructor
 ·intro e
  subst e
  have := (show w.heap[g]? = _ from hb).symm.trans h1
  simp at this
 ·intro e
  subst e
  have := (show w.heap[g]? = _ from hb).symm.trans h2
  simp at this
theorem zHm {w : World} {base n : Nat} {v : Value} {xs : List Value} {k : Nat} {e : TypeId} {s : Nat} (h : w.ownsRow base e s v n xs) (hk : v.ownBlock = some k) : ∃ cur, Blk w k cur e := by
 rcases h.2 with ⟨rfl, _⟩ | ⟨g, cap, cur, rfl, _, hh, _⟩
 ·simp [Value.ownBlock] at hk
 ·obtain rfl : g = k := by simpa [Value.ownBlock] using hk
  exact ⟨cur, hh⟩
theorem zLE {w : World} {B : Nat} {e : TypeId} {k n : Nat} {v : Value} {xs : List Value} (h : w.ownsRow B e k v n xs) (hn : 0 < n) : ∃ g cap, v = .slice (some ⟨g, 0, none⟩) n cap := by
 rcases h.2 with ⟨h1, h2⟩ | ⟨g, cap, cur, h1, _⟩
 ·omega
 ·exact ⟨g, cap, h1⟩
theorem zKq {w : World} {base g cap n : Nat} {l : List Int} (h : w.ownsRow base 3 1 (.slice (some ⟨g, 0, none⟩) n cap) l.length (l.map (Value.int .i64))) : Go.Sort.Holds (Value.int .i64) w g 0 l.toArray := by
 intro j hj
 have hj' : j < l.length := by simpa using hj
 rcases h.2 with ⟨h1, _⟩ | ⟨g', cap', cur, h1, _, hh, hn, _, hs, hx⟩
 ·cases h1
 ·obtain ⟨rfl, rfl, rfl⟩ : g = g' /\ n = l.length /\ cap = cap' := by simpa using h1
  rw [Nat.mul_one] at hs hx
  rw [Nat.zero_add, cell_of_row w g j cur 3 (0, 0) hh]
  refine ⟨?_, by simp [World.frozen?, hh]⟩
  have e : cur.toList[j]? = (l.map (Value.int .i64))[j]? := by rw [<- hx, List.getElem?_take, if_pos hj']
  rw [<- Array.getElem?_toList, e]
  simp [hj']
theorem zIX {w : World} {mb mo eb bm n : Nat} {T : Nat -> En} (h : MM w mb mo eb bm n T) (hT : TOk n T) (hn : n <= 1024) :
  Calls Tryz.prog 133 #[.pointer (some ⟨mb, mo, none⟩)] w fun e w' => ∃ p cap, e = .returned (.slice p (lstI T n).length cap) /\ Ints w' p (lstI T n) /\ Below w.heap.size w w' := by
 obtain ⟨i0, hi, hz0, hz1, hz2⟩ := info_parts zIH
 have HI := uB (And.intro hi (And.intro hz0 (And.intro hz1 hz2)))
 clear hi hz0 hz1 hz2
 obtain ⟨D, hown, hPD⟩ := h.pm
 have c1 := h.c1
 have HQ := uB (And.intro hT (And.intro hPD hn))
 clear h hT hPD
 go_enter Tryz.func133, Tryz.ntmps133
 go_wp2_with (first
  | (at_range; refine wpList_range_own _ rfl _ 92 rfl 99 3 zEV Tryz.underlying92 _ bm n D rfl hown ?_; intro x0 hrg0 hg0 hs0)
  | go_in)
 go_frame
 have X0 := uB (show RisI w bm w.heap.size n D T (.slice none 0 0) x0 from ⟨_, _, [], hrg0, zJz (uA HQ).2.1, Nat.zero_le _, World.ownsRow_nil _ _ _ _, fun k q => (by cases q), (Below.refl _ w).grown hg0 (Nat.le_refl _) (fun k q => (by cases q))⟩)
 clear hrg0 hg0 hs0 hown c1
 go_loopw [3] (fun u wr => RisI w bm w.heap.size n D T u wr) (fun _ wr => wr.rangeLeft bm w.heap.size)
 case atStart => exact uA X0
 case round =>
  obtain ⟨left, cnt, l, hrg, hco, hln, hrow, hnr, hbel⟩ := hrel
  clear X0
  go_wp2_with (first
   | (at_next; refine wpList_next_ranges _ rfl _ rfl 99 zEV (plainElem Tryz.prog 3) (fun v : Value => v) (Value.int .i64) (fun key kl _ => ⟨key, rfl⟩) (fun v y hv => by obtain ⟨c, rfl, _⟩ := plainElem_int_inv Tryz.underlying3 hv; exact ⟨c, rfl⟩) bm w.heap.size n _ _ _ rfl hrg ?_ ?_)
   | go_in)
  ·intro _ hl0
   obtain ⟨hms, hlen⟩ := zM4 (uA HQ).1 hco hl0
   obtain ⟨pv, cv, rfl, hcv⟩ := zAy hrow
   cases l with
   | nil =>
    have HE := uB (show lstI T n = [] from List.length_eq_zero_iff.1 hlen.symm)
    have HSN := uB (Tryz.slices_Sort_int_none pv cv wr)
    have HB := uB hbel
    clear hrg hco hln hrow hnr hbel hms hlen hl0 hcv
    simp only [List.length_nil]
    go_wp2_with (go_at_call 182; refine (uA HSN).mono ?_; rintro e w' ⟨rfl, hw'⟩; subst w')
    go_ret
    rw [uA HE]
    exact ⟨pv, cv, rfl, fun j hj => absurd hj (Nat.not_lt_zero j), uA HB⟩
   | cons a0 lr =>
    obtain ⟨L1, hL1⟩ : ∃ q, a0 :: lr = q := ⟨_, rfl⟩
    rw [hL1] at hms hlen hrow hln ⊢
    have hpos : 0 < L1.length := by rw [<- hL1]; simp
    obtain ⟨g, cap, hge⟩ := zLE hrow hpos
    obtain ⟨rfl, rfl⟩ : pv = some ⟨g, 0, none⟩ /\ cv = cap := by simpa using hge
    obtain ⟨cur, hgb⟩ := zHm hrow (k := g) rfl
    have hH := zKq hrow
    have hgl : g < wr.heap.size := hgb.lt
    have hgw : w.heap.size <= g := (hrow.lt g rfl).1
    have hcS := Tryz.slices_Sort_int g 0 cv L1 wr hH hgl (by omega)
    rw [hms] at hcS
    have HCS := uB hcS
    have HQ2 := uB (And.intro hH (And.intro hgl (And.intro hgw (And.intro hbel (And.intro hlen hms)))))
    obtain ⟨ll, hll⟩ : ∃ q, L1.length = q := ⟨_, rfl⟩
    rw [hll] at HCS hpos ⊢
    have HLL := uB hll
    clear hrg hco hln hrow hnr hbel hms hlen hl0 hcv hge hgb hH hgl hgw hcS hL1 hll
    go_wp2_with fail
    refine (uA HCS).mono ?_
    rintro e x3 ⟨rfl, k3, os3, hx3⟩
    obtain ⟨hH, hgl, hgw, hbel, hlen, hms⟩ := uA HQ2
    have hsz : (Go.Sort.putRow (Value.int .i64) (Go.Sort.ahead wr k3) g 0 (lstI T n).toArray).heap.size = wr.heap.size := by simp [Go.Sort.putRow, Go.Sort.mapBlock, Go.Sort.ahead]
    have hH3 : Go.Sort.Holds (Value.int .i64) x3 g 0 (lstI T n).toArray := by
     rw [hx3]
     refine Go.Sort.holds_grow _ _ _ _ _ _ ?_ (Go.Sort.holds_putRow _ _ _ _ L1.toArray _ hH (by simp [hlen]))
     rw [hsz]
     exact hgl
    have hb3 : Below w.heap.size w x3 := by
     rw [hx3]
     refine zEF (Go.Lib.below_putRow hbel hgw) ?_ _
     rw [hsz]
     exact hbel.size
    have hl9 := uA HLL
    have hgl3 : g < x3.heap.size := World.block_lt_of_cell? x3 _ (hH3 0 (by rw [List.size_toArray]; omega)).1
    clear hl9
    have HF := uB (And.intro hH3 (And.intro hb3 (And.intro hgl3 hlen)))
    clear hx3 hsz hH3 hb3 hgl3 hH hgl hgw hbel hlen hms HCS HQ2
    go_wp2
    go_ret
    obtain ⟨hH3, hb3, hgl3, hlen⟩ := uA HF
    refine ⟨some ⟨g, 0, none⟩, cv, by rw [<- hlen, uA HLL]; rfl, fun j hj => ⟨g, 0, rfl, hgl3, ?_⟩, hb3⟩
    rw [(hH3 j (by simpa using hj)).1]
    simp [hj]
  ·intro x c kl ya yb w1 cnt1 hkx hlx hy hat hrg1 hlt hg1 hs1 hen
   have hya : ya = .lit (.int .i64 c) := by
    obtain ⟨c', e1, e2, _⟩ := plainElem_int_inv Tryz.underlying3 hy
    obtain rfl : c = c' := by simpa using e1
    exact congrArg Prod.fst e2
   subst hya
   obtain ⟨hco2, ic, hic, hicn⟩ := zKe (uA HQ).2.1 (uA HQ).1 hco hlx hat
   have hrow1 : w1.ownsRow w.heap.size 3 1 u3 l.length (l.map (Value.int .i64)) := hrow.kept hg1 (.inr (fun e => hnr _ e rfl))
   have hb1 : Below w.heap.size w w1 := hbel.grown hg1 hbel.size (fun k q => by cases q; exact Nat.le_refl _)
   have hl2 : l.length + 1 <= n := by
    have := zMR (uA HQ).1 hco2
    rwa [List.length_append] at this
   have hRA : (w1.alloc (.cells #[.int .i64 c] 3)).ownsRow w.heap.size 3 1 u3 l.length (l.map (Value.int .i64)) := hrow1.alloc _
   have HRA := uB hRA
   have HR1 := uB (hrg1.alloc (.cells #[.int .i64 c] 3))
   have HXB := uB (show Below w.heap.size w (w1.alloc (.cells #[.int .i64 c] 3)) from hb1.alloc hb1.size _)
   have HCO := uB (And.intro hco2 (And.intro hl2 (And.intro hnr (And.intro hlt hrg))))
   obtain ⟨pv, cv, rfl, hcv⟩ := zAy hrow
   obtain ⟨m, hm⟩ : ∃ q, l.length = q := ⟨_, rfl⟩
   rw [hm] at HRA ⊢
   have hmn : m <= 1024 := by omega
   have HM := uB hm
   clear hs1 hrg hco hln hrow hnr hbel hkx hlx hy hat hrg1 hlt hg1 hco2 hic hicn hrow1 hb1 hl2 hRA hm hcv
   go_wp2_with (refine wpList_append_own _ rfl (.tmp 15) (.tmp 17) 53 rfl w.heap.size 3 i0 (.int .i64 0) 1 8 Tryz.underlying53 (uA HI).1 (uA HI).2.1 (uA HI).2.2.1 (uA HI).2.2.2 rfl (by decide) _ m (l.map (Value.int .i64)) rfl (uA HRA) ⟨w1.heap.size, 0, none⟩ 1 1 [.int .i64 c] rfl rfl (fun q u hu => zB7 w1 3 _ q u hu) (by simp [Value.oneCell']) (by unfold maxLen; omega) (by omega) (uA HXB).size ?_)
   intro v5 x5 ho5 hg5 _
   obtain ⟨hco2, hl2, hnr, hlt, hrg⟩ := uA HCO
   have hx5 : x5.ranges Tryz.prog 99 (plainElem Tryz.prog 3) bm w.heap.size n D (fun z => left z && !z.sameKey kl) cnt1 := by
    refine (uA HR1).kept hg5 (fun e => ?_) (fun e => hnr _ (by rw [uA HM]; exact e.symm) rfl)
    obtain ⟨cur, hb⟩ := zHm (uA HRA) e.symm
    exact (zGy (uA HR1) hb).1 rfl
   have hb5 : Below w.heap.size w x5 := (uA HXB).grown hg5 (uA HXB).size (fun q hq => ((uA HRA).lt q hq).1)
   have ho6 : x5.ownsRow w.heap.size 3 1 v5 (l ++ [c]).length ((l ++ [c]).map (Value.int .i64)) := by
    rw [List.length_append, List.map_append, uA HM]
    exact ho5
   have HNEW := uB (show RisI w bm w.heap.size n D T v5 x5 from ⟨_, cnt1, l ++ [c], hx5, hco2, by rw [List.length_append]; exact hl2, ho6, fun k hk => by
    obtain ⟨cur, hb⟩ := zHm ho6 hk
    exact (zGy hx5 hb).2, hb5⟩)
   have HMS := uB (show x5.rangeLeft bm w.heap.size < wr.rangeLeft bm w.heap.size from by rw [hx5.left_eq, hrg.left_eq]; exact hlt)
   clear hco2 hl2 hnr hlt hrg hx5 hb5 ho6 ho5 hg5 HRA HR1 HXB HCO hen
   go_wp2
   go_roundw
   case rel => exact uA HNEW
   case measure => exact uA HMS
end
section
open Go.RowKit Go.Maps Go.Sort Go.Shelf
def eaC (T : Nat -> En) (l : List Nat) : List Value := l.flatMap fun i => slC i (T i)
theorem zOC (T : Nat -> En) (l m : List Nat) : eaC T (l ++ m) = eaC T l ++ eaC T m := by simp [eaC]
theorem zM7 (T : Nat -> En) : ∀ (l : List Nat) (k j : Nat), k < l.length -> j < 3 -> (eaC T l)[k * 3 + j]? = (slC (l.getD k 0) (T (l.getD k 0)))[j]?
 | [], k, j, hk, _ => absurd hk (Nat.not_lt_zero k)
 | i :: r, 0, j, _, hj => by
  show (slC i (T i) ++ eaC T r)[0 * 3 + j]? = _
  rw [List.getElem?_append_left (by rw [zHX]; omega), Nat.zero_mul, Nat.zero_add]
  rfl
 | i :: r, k + 1, j, hk, hj => by
  show (slC i (T i) ++ eaC T r)[(k + 1) * 3 + j]? = _
  rw [List.getElem?_append_right (by rw [zHX]; omega), zHX, show (k + 1) * 3 + j - 3 = k * 3 + j by omega]
  exact zM7 T r k j (by simpa using hk) hj
def Sls (w : World) (p : Option Addr) (T : Nat -> En) (l : List Nat) : Prop := ∀ k, k < l.length -> ∃ g o, p = some ⟨g, o, none⟩ /\ g < w.heap.size /\ ∀ j, j < 3 -> w.cell? ⟨g, o + k * 3 + j, none⟩ = (slC (l.getD k 0) (T (l.getD k 0)))[j]?
def SlsB (B : Nat) (w : World) (p : Option Addr) (T : Nat -> En) (l : List Nat) : Prop := ∀ k, k < l.length -> ∃ g o, p = some ⟨g, o, none⟩ /\ B <= g /\ g < w.heap.size /\ ∀ j, j < 3 -> w.cell? ⟨g, o + k * 3 + j, none⟩ = (slC (l.getD k 0) (T (l.getD k 0)))[j]?
theorem zL1 {w : World} {base B : Nat} {p : Option Addr} {m c : Nat} {T : Nat -> En} {l : List Nat} (h : w.ownsRow base 40 3 (.slice p m c) l.length (eaC T l)) (hB : B <= base) : SlsB B w p T l := fun k hk => by
 rcases h.2 with ⟨_, h2⟩ | ⟨g, cap, cur, h1, hb, hh, hn, _, hs, hx⟩
 ·omega
 ·obtain ⟨rfl, rfl, rfl⟩ : p = some ⟨g, 0, none⟩ /\ m = l.length /\ c = cap := by simpa using h1
  refine ⟨g, 0, rfl, Nat.le_trans hB hb, (Array.getElem?_eq_some_iff.1 hh).1, fun j hj => ?_⟩
  rw [cell_of_row w g (0 + k * 3 + j) cur 40 (0, 0) hh, Nat.zero_add, <- zM7 T l k j hk hj, <- hx, <- Array.getElem?_toList, List.getElem?_take, if_pos (by omega)]
theorem zH6 (T : Nat -> En) (n k : Nat) (hk : k < (lstE T n).length) : (lstI T n).getD k 0 = (((lstE T n).getD k 0 : Nat) : Int) /\ ((lstE T n).getD k 0) < n /\ (∃ d c, T ((lstE T n).getD k 0) = some (d, c)) /\ (lstE T n).take (k + 1) = (lstE T n).take k ++ [(lstE T n).getD k 0] := by
 have hm : (lstE T n).getD k 0 ∈ lstE T n := by
  rw [List.getD_eq_getElem?_getD, List.getElem?_eq_getElem hk]
  exact List.getElem_mem hk
 obtain ⟨h1, h2⟩ := List.mem_filter.1 hm
 obtain ⟨p, hp⟩ := Option.isSome_iff_exists.1 h2
 refine ⟨by simp [lstI, hk], List.mem_range.1 h1, ⟨p.1, p.2, hp⟩, ?_⟩
 rw [List.take_add_one, List.getElem?_eq_getElem hk]
 simp [hk]
theorem zJo (w : World) (T : TypeId) (x y z : Value) (j : Nat) (u : Value) (hu : [x, y, z][j]? = some u) : (w.alloc (.cells #[x, y, z] T)).cell? (Addr.add ⟨w.heap.size, 0, none⟩ j) = some u := by
 rw [Addr.add_mid, Nat.zero_add, (Blk.new w T #[x, y, z]).cell j]
 simpa using hu
theorem zK6 : (Tryz.prog.info? 40).map (fun i => (i.zero, i.size, i.bytes)) = some (some (.agg #[.int .i64 0, .string ⟨#[]⟩, .int .i64 0]), 3, 32) := by kernel_rfl
def EaI (w : World) (T : Nat -> En) (l : List Nat) (u : Value) (k : Nat) (wr : World) : Prop := wr.ownsRow w.heap.size 40 3 u k (eaC T (l.take k)) /\ Below w.heap.size w wr
theorem zFd {w0 w : World} {xb pb a eb bm n : Nat} {T : Nat -> En} (h : IM w0 w xb pb a eb bm n T) (hT : TOk n T) (hn : n <= 1024) :
  Calls Tryz.prog 69 #[.pointer (some ⟨xb, 0, none⟩)] w fun e w' => ∃ p cap, e = .returned (.slice p (lstE T n).length cap) /\ SlsB w.heap.size w' p T (lstE T n) /\ Below w.heap.size w w' := by
 obtain ⟨i0, hi, hz0, hz1, hz2⟩ := info_parts zK6
 have HI := uB (And.intro hi (And.intro hz0 (And.intro hz1 hz2)))
 clear hi hz0 hz1 hz2
 have HRS := uB (zIX h.mm hT hn)
 have HH := uB (And.intro h hT)
 have hel : (lstI T n).length = (lstE T n).length := by simp [lstI]
 have hlen : (lstE T n).length <= n := by
  have := List.length_filter_le (fun i => (T i).isSome) (List.range n)
  rw [List.length_range] at this
  exact this
 obtain ⟨m, hm⟩ : ∃ q, (lstE T n).length = q := ⟨_, rfl⟩
 rw [hel, hm] at HRS
 rw [hm] at hlen ⊢
 have HM := uB (And.intro hm hel)
 clear h hT hel hm
 go_enter Tryz.func69, Tryz.ntmps69
 go_wp2_with fail
 refine (uA HRS).mono ?_
 rintro e x1 ⟨pv, cv, rfl, hIn, hb1⟩
 have X0 := uB (show EaI x1 T (lstE T n) (.slice none 0 0) 0 x1 from ⟨by rw [List.take_zero]; exact World.ownsRow_nil _ _ _ _, Below.refl _ _⟩)
 have H1 := uB (And.intro hIn hb1)
 clear hIn hb1 HRS
 go_wp2
 go_loopw [3, 11] (fun u i wr => ∃ k : Nat, k <= m /\ i = .int .i64 (k : Int) /\ EaI x1 T (lstE T n) u k wr) (fun _ i _ => m - (intOf i).toNat)
 case atStart => exact ⟨0, by omega, rfl, uA X0⟩
 case round =>
  obtain ⟨k, hk, rfl, hR, hB⟩ := hrel
  obtain ⟨wo, rfl⟩ : ∃ wo, wo = wr := ⟨_, rfl⟩
  obtain ⟨pu, cu, rfl, hcu⟩ := zAy hR
  clear X0
  by_cases hkn : k < m
  ·have hkn' : (k : Int) < (m : Int) := by omega
   have k0 : (0 : Int) <= (k : Int) := by omega
   obtain ⟨l1, l2, ⟨d, c, l3⟩, l4⟩ := zH6 T n k (by rw [(uA HM).1]; exact hkn)
   obtain ⟨g, oo, rfl, hgl, hcg⟩ := (uA H1).1 k (by rw [(uA HM).2, (uA HM).1]; exact hkn)
   rw [l1, <- hB.cell (p := ⟨g, oo + k, none⟩) hgl] at hcg
   obtain ⟨i, hii⟩ : ∃ q, (lstE T n).getD k 0 = q := ⟨_, rfl⟩
   rw [hii] at l2 l3 l4 hcg
   have hbw : Below w.heap.size w wo := (uA H1).2.trans (hB.mono (uA H1).2.size)
   have HTE := uB (zGC ((uA HH).1.below hbw).mm (uA HH).2 i l2 hn d c l3)
   have HR := uB (And.intro hR (And.intro hB (And.intro l3 l4)))
   clear hR hB l1 l3 l4 hii hgl hbw hcu
   go_wp2_with fail
   refine (uA HTE).mono ?_
   rintro e y2 ⟨rfl, hb2⟩
   obtain ⟨hR, hB, l3, l4⟩ := uA HR
   have hRA : (y2.alloc (.cells #[.int .i64 (i : Int), .string d, .int .i64 (c : Int)] 40)).ownsRow x1.heap.size 40 3 (.slice pu k cu) k (eaC T ((lstE T n).take k)) := (zAh hR (Only.of_below (P := fun _ => False) hb2) (fun _ _ q => q)).alloc _
   have HRA := uB hRA
   have hB2 : Below x1.heap.size x1 y2 := hB.trans (hb2.mono hB.size)
   have HXB := uB (hB2.alloc hB2.size (.cells #[.int .i64 (i : Int), .string d, .int .i64 (c : Int)] 40))
   have HT := uB (show eaC T ((lstE T n).take (k + 1)) = eaC T ((lstE T n).take k) ++ [.int .i64 (i : Int), .string d, .int .i64 (c : Int)] from by
    rw [l4, zOC]
    congr 1
    show slC i (T i) ++ [] = _
    rw [l3]
    rfl)
   clear hR hB l3 l4 hRA hB2 hb2 HTE
   go_wp2_with (refine wpList_append_own _ rfl (.tmp 15) (.tmp 21) 123 rfl x1.heap.size 40 i0 (.agg #[.int .i64 0, .string ⟨#[]⟩, .int .i64 0]) 3 32 Tryz.underlying123 (uA HI).1 (uA HI).2.1 (uA HI).2.2.1 (uA HI).2.2.2 rfl (by decide) _ k (eaC T ((lstE T n).take k)) rfl (uA HRA) ⟨y2.heap.size, 0, none⟩ 1 1 [.int .i64 (i : Int), .string d, .int .i64 (c : Int)] rfl rfl (fun q u hu => zJo y2 40 _ _ _ q u hu) (by simp [Value.oneCell']) (by unfold maxLen; omega) (by omega) (uA HXB).size ?_)
   intro v5 x5 ho5 hg5 _
   have HRR := uB (show EaI x1 T (lstE T n) v5 (k + 1) x5 from ⟨by rw [uA HT]; exact ho5, (uA HXB).grown hg5 (uA HXB).size (fun q hq => ((uA HRA).lt q hq).1)⟩)
   clear ho5 hg5 HRA HXB HT hcg
   go_wp2
   go_roundw
   case rel => exact ⟨k + 1, by omega, by go_num, uA HRR⟩
   case measure => simp [intOf]; omega
  ·have hke : m = k := by omega
   have hkn' : ¬ (k : Int) < (m : Int) := by omega
   have HF := uB (And.intro hR (And.intro hB hke))
   clear hR hB hcu hke
   go_wp2
   go_ret
   obtain ⟨hR, hB, hke⟩ := uA HF
   refine ⟨pu, ⟨cu, by rw [hke]; rfl⟩, ?_, (uA H1).2.trans (hB.mono (uA H1).2.size)⟩
   have hm := (uA HM).1
   rw [List.take_of_length_le (by omega), <- hke, <- hm] at hR
   exact zL1 hR (uA H1).2.size
theorem zLx {w0 w : World} {xb pb a eb bm n : Nat} {T : Nat -> En} (h : IM w0 w xb pb a eb bm n T) (hT : TOk n T) (hn : n <= 1024) :
  Calls Tryz.prog 69 #[.pointer (some ⟨xb, 0, none⟩)] w fun e w' => ∃ p cap, e = .returned (.slice p (lstE T n).length cap) /\ Sls w' p T (lstE T n) /\ Below w.heap.size w w' := by
 refine (zFd h hT hn).mono ?_
 rintro e w' ⟨p, cap, rfl, hS, hb⟩
 exact ⟨p, cap, rfl, fun k hk => by
  obtain ⟨g, o, h1, _, h2, h3⟩ := hS k hk
  exact ⟨g, o, h1, h2, h3⟩, hb⟩
end
section
open Go.RowKit Go.Maps Go.Sort Go.Shelf
theorem zJU {w0 w : World} {b jb pb xb eb bm mb sb : Nat} {Y : Nat -> Prop} {n : Nat} {S : PS} {L : List ByteArray} {A : List (Nat × Nat)} {hn : Nat} {Mw Mn : List ByteArray} {T U : Nat -> En} {B : Nat -> Bool} (h : CG w0 w b jb pb xb eb bm mb sb Y n S L A hn Mw Mn T U B) (i : Nat) (hi : i < n) (d : ByteArray) (c : Nat) (hU : U i = some (d, c)) : Calls Tryz.prog 24 #[.pointer (some ⟨sb, 0, none⟩), .string d] w fun e w' => e = .returned (.tuple #[.string (Mn.getD (30 + i) ByteArray.empty), .int .i64 0]) /\ zHx w0 w b jb pb xb eb bm mb sb Y n S L A hn Mw Mn T U B w' := by
 have HF := uB (zEC h i hi d c hU)
 have X0 := uB h
 have HA := uB (fun W => zMs W)
 obtain ⟨t, hgt⟩ : ∃ q, Mn.getD (30 + i) ByteArray.empty = q := ⟨_, rfl⟩
 rw [hgt]
 have HGT := uB hgt
 clear h hU hgt
 go_enter Tryz.func24, Tryz.ntmps24
 go_wp2_with fail
 refine (uA HF).mono ?_
 rintro e x2 ⟨rfl, hb2⟩
 obtain ⟨g, hg⟩ : ∃ q, x2.heap.size = q := ⟨_, rfl⟩
 obtain ⟨x3, hx3⟩ : ∃ q, x2.alloc (.cells #[.int .i64 (i : Int), .string d, .int .i64 (c : Int)] 40) = q := ⟨_, rfl⟩
 have hb3 : Below x2.heap.size x2 x3 := by rw [<- hx3]; exact (Below.refl _ x2).alloc (Nat.le_refl _) _
 have B3 : Blk x3 g #[.int .i64 (i : Int), .string d, .int .i64 (c : Int)] 40 := by rw [<- hx3, <- hg]; exact Blk.new x2 _ _
 have a0 : x3.cell? ⟨g, 0, none⟩ = some (.int .i64 (i : Int)) := B3.cell 0
 have hb23 : Below w.heap.size w x3 := hb2.trans (hb3.mono hb2.size)
 have HR := uB (zGV ((uA X0).below hb23) i hi)
 rw [uA HGT] at HR
 have X3 := uB (Only.of_below (P := fun x => ¬ Xf Y xb eb bm x) hb23)
 clear hb2 hb3 B3 HF hb23 hi
 go_wp2_with fail
 refine (uA HR).mono ?_
 rintro e x4 ⟨rfl, S4, k1, k2, k3, k4⟩
 have X4 := uB (And.intro k1 (And.intro k2 (And.intro k3 ((uA X3).trans k4 (fun _ _ q => q)))))
 clear k1 k2 k3 k4 HR
 go_wp2_with (go_at_call 43; refine (uA HA _).mono ?_; rintro e w' ⟨rfl, hw'⟩; subst w')
 go_ret2
 exact ⟨rfl, S4, (uA X4).1, (uA X4).2.1, (uA X4).2.2.1, (uA X4).2.2.2⟩
theorem zHL {w0 w : World} {b jb pb xb eb bm mb sb : Nat} {Y : Nat -> Prop} {n : Nat} {S : PS} {L : List ByteArray} {A : List (Nat × Nat)} {hn : Nat} {Mw Mn : List ByteArray} {T U : Nat -> En} {B : Nat -> Bool} (h : CG w0 w b jb pb xb eb bm mb sb Y n S L A hn Mw Mn T U B) : Calls Tryz.prog 25 #[.pointer (some ⟨sb, 0, none⟩)] w fun e w' => e = .returned (.int .i64 ((lstE U n).length : Int)) /\ Below w.heap.size w w' := by
 have HW := uB (zCz h)
 have HE := uB (zLx h.ig.im h.ig.oku (by have := h.n24; omega))
 obtain ⟨c0, c1, c2, c3⟩ := h.c
 clear h
 generalize (lstE U n).length = m at *
 go_enter Tryz.func25, Tryz.ntmps25
 go_wp2_with (go_at_call 68; refine (uA HW).mono ?_; rintro e w' ⟨rfl, hw'⟩; subst w')
 refine (uA HE).mono ?_
 rintro e x1 ⟨p, cap, rfl, -, hb1⟩
 have HB := uB hb1
 clear hb1 HE
 go_wp2
 go_ret
 exact ⟨rfl, uA HB⟩
end
end Go.Proofs.YtdpnbemagiekoaaGreatDoor
