import Derived.Test.YtdpnbemagiekoaaGreatDoorMc32
namespace Go.Proofs.YtdpnbemagiekoaaGreatDoor
open Go.RowKit Go.Maps Go.Sort Go.Shelf
set_option maxRecDepth 100000 in
set_option maxHeartbeats 2000000 in
theorem csave_max {w0 w : World} {b jb pb xb eb bm mb sb : Nat} {Y : Nat → Prop} {n : Nat} {S : PS} {L : List ByteArray} {A : List (Nat × Nat)} {hn : Nat} {Mw Mn : List ByteArray} {T : Nat → En} {B : Nat → Bool} {e0 e1 e2 : Addr} (h : CG w0 w b jb pb xb eb bm mb sb Y n S L A hn Mw Mn T T B) (ho : S.op = true) (hK : KTab w0) (hs : Snt w0 e0 e1 e2) (t : ByteArray) (ht : t.size = 256) (i : Nat) (hi : i < n) (hT : T i = some (dgB t, 65535)) (hD : Mn.getD (30 + i) ByteArray.empty = t) : Calls Tryz.prog 42 #[.pointer (some ⟨sb, 0, none⟩), .string t] w fun e w' => e = .returned (.tuple #[.string (dgB t), .bool false, eP e1]) ∧ CKept w0 w b jb pb xb eb bm mb sb Y n S L A hn Mw Mn T T B w' := by
  have HD := hide (digest9_any t ht w (hK.below h.bel hK.1))
  have hdd : (dgB t).size = 32 := dgB_size t
  generalize dgB t = d at *
  have X0 := hide (And.intro h (And.intro ho hs))
  clear h ho hs hK
  go_enter Tryz.func42, Tryz.ntmps42
  go_wp2_with fail
  refine (unhide HD).mono ?_
  rintro e x1 ⟨rfl, hb1⟩
  obtain ⟨h, ho, hs⟩ := unhide X0
  have HF := hide ((cftc_hit (h.below hb1) ho hs i hi d 65535 hT))
  try simp only [Int.cast_ofNat_Int] at HF
  have X1 := hide hb1
  clear h ho hs hb1 HD
  go_wp2_with fail
  refine (unhide HF).mono ?_
  rintro e x2 ⟨rfl, G2, O2⟩
  obtain ⟨h, ho, hs⟩ := unhide X0
  obtain ⟨g, hg⟩ : ∃ q, x2.heap.size = q := ⟨_, rfl⟩
  obtain ⟨x3, hx3⟩ : ∃ q, x2.alloc (.cells #[.int .i64 (i : Int), .string d, .int .i64 65535] 40) = q := ⟨_, rfl⟩
  have hb3 : Below x2.heap.size x2 x3 := by rw [← hx3]; exact (Below.refl _ x2).alloc (Nat.le_refl _) _
  have B3 : Blk x3 g #[.int .i64 (i : Int), .string d, .int .i64 65535] 40 := by rw [← hx3, ← hg]; exact Blk.new x2 _ _
  have G3 := G2.below hb3
  have OX : Only (fun x => ¬ Xf Y xb eb bm x) w x3 := ((Only.of_below (P := fun x => ¬ Xf Y xb eb bm x) (unhide X1)).trans O2 (fun _ _ q => q)).trans (Only.of_below (P := fun x => ¬ Xf Y xb eb bm x) hb3) (fun _ _ q => q)
  have hs3 : Snt x3 e0 e1 e2 := hs.below G3.bel
  have a0 : x3.cell? ⟨g, 0, none⟩ = _ := B3.cell 0
  have a1 : x3.cell? ⟨g, 1, none⟩ = _ := B3.cell 1
  have a2 : x3.cell? ⟨g, 2, none⟩ = _ := B3.cell 2
  have g0 := hs3.g0
  simp only [List.getElem?_toArray, List.getElem?_cons_zero, List.getElem?_cons_succ] at a0 a1 a2
  have HA := hide (cagain_max G3 hs i hi d t hD)
  have X3 := hide (And.intro G3 OX)
  clear h ho hs G2 O2 B3 hb3 G3 OX hs3 HF X0 X1
  clear hT hD hi
  go_wp2_with fail
  refine (unhide HA).mono ?_
  rintro e x4 ⟨rfl, S4, k1, k2, k3, k4⟩
  have X4 := hide (And.intro k1 (And.intro k2 (And.intro k3 ((unhide X3).2.trans k4 (fun _ _ q => q)))))
  clear k1 k2 k3 k4 HA
  go_wp2
  go_ret3
  exact ⟨rfl, S4, (unhide X4).1, (unhide X4).2.1, (unhide X4).2.2.1, (unhide X4).2.2.2⟩
set_option maxRecDepth 100000 in
set_option maxHeartbeats 2000000 in
theorem csave_new {w0 w : World} {b jb pb xb eb bm mb sb : Nat} {Y : Nat → Prop} {n : Nat} {S : PS} {L : List ByteArray} {A : List (Nat × Nat)} {hn : Nat} {Mw Mn : List ByteArray} {T : Nat → En} {B : Nat → Bool} {e0 e1 e2 : Addr} (h : CG w0 w b jb pb xb eb bm mb sb Y n S L A hn Mw Mn T T B) (ho : S.op = true) (hK : KTab w0) (hs : Snt w0 e0 e1 e2) (t : ByteArray) (ht : t.size = 256) (p : Nat) (hl : Lea B n p) (hT : ∀ j c, T j ≠ some (dgB t, c)) (hz : S.tx.length ≤ 13) : Calls Tryz.prog 42 #[.pointer (some ⟨sb, 0, none⟩), .string t] w fun e w' => e = .returned (.tuple #[.string (dgB t), .bool true, .nilIface]) ∧ CChg w0 w b jb pb xb eb bm mb sb Y n S L A hn Mw Mn [19, 30 + p, 20 + p / 6] (upd T p (some (dgB t, 1))) (upd T p (some (dgB t, 1))) (flp B p) (fun M => M.getD (30 + p) ByteArray.empty = t) w' := by
  have HD := hide (digest9_any t ht w (hK.below h.bel hK.1))
  have hdd : (dgB t).size = 32 := dgB_size t
  generalize dgB t = d at *
  have X0 := hide (And.intro h (And.intro ho hs))
  clear h ho hs hK
  go_enter Tryz.func42, Tryz.ntmps42
  go_wp2_with fail
  refine (unhide HD).mono ?_
  rintro e x1 ⟨rfl, hb1⟩
  obtain ⟨h, ho, hs⟩ := unhide X0
  have HF := hide (cftc_miss (h.below hb1) ho hs d hdd hT)
  try simp only [Int.cast_ofNat_Int] at HF
  have X1 := hide hb1
  clear h ho hs hb1 HD
  go_wp2_with fail
  refine (unhide HF).mono ?_
  rintro e x2 ⟨rfl, G2, O2⟩
  obtain ⟨h, ho, hs⟩ := unhide X0
  obtain ⟨g, hg⟩ : ∃ q, x2.heap.size = q := ⟨_, rfl⟩
  obtain ⟨x3, hx3⟩ : ∃ q, x2.alloc (.cells #[.int .i64 0, .string ⟨#[]⟩, .int .i64 0] 40) = q := ⟨_, rfl⟩
  have hb3 : Below x2.heap.size x2 x3 := by rw [← hx3]; exact (Below.refl _ x2).alloc (Nat.le_refl _) _
  have B3 : Blk x3 g #[.int .i64 0, .string ⟨#[]⟩, .int .i64 0] 40 := by rw [← hx3, ← hg]; exact Blk.new x2 _ _
  have G3 := G2.below hb3
  have OX : Only (fun x => ¬ Xf Y xb eb bm x) w x3 := ((Only.of_below (P := fun x => ¬ Xf Y xb eb bm x) (unhide X1)).trans O2 (fun _ _ q => q)).trans (Only.of_below (P := fun x => ¬ Xf Y xb eb bm x) hb3) (fun _ _ q => q)
  have hs3 : Snt x3 e0 e1 e2 := hs.below G3.bel
  have a0 : x3.cell? ⟨g, 0, none⟩ = _ := B3.cell 0
  have a1 : x3.cell? ⟨g, 1, none⟩ = _ := B3.cell 1
  have a2 : x3.cell? ⟨g, 2, none⟩ = _ := B3.cell 2
  have g0 := hs3.g0
  simp only [List.getElem?_toArray, List.getElem?_cons_zero, List.getElem?_cons_succ] at a0 a1 a2
  have p0 := B3.frozen 0
  have p1 := B3.frozen 1
  have p2 := B3.frozen 2
  obtain ⟨x4, hx4⟩ : ∃ q, ((x3.setCell ⟨g, 0, none⟩ (.int .i64 0)).setCell ⟨g, 1, none⟩ (.string ⟨#[]⟩)).setCell ⟨g, 2, none⟩ (.int .i64 0) = q := ⟨_, rfl⟩
  have O4 : Only (fun x => x = g) x3 x4 := by rw [← hx4]; exact (((Only.refl (fun x => x = g) x3).setCell ⟨g, 0, none⟩ (.int .i64 0) (fun _ => rfl)).setCell ⟨g, 1, none⟩ (.string ⟨#[]⟩) (fun _ => rfl)).setCell ⟨g, 2, none⟩ (.int .i64 0) (fun _ => rfl)
  have G4 : CG w0 x4 b jb pb xb eb bm mb sb Y n S L A hn Mw Mn T T B := (G2.more (Z := fun x => Y x ∨ x = g) hb3 (fun x q => q.imp_right (fun e => by rw [e, hg]; exact ⟨Nat.le_refl _, B3.lt⟩)) (.inl h.ym) (.inl h.ys)).poke1 (G2.away hg) O4
  have OX4 : Only (fun x => ¬ Xf Y xb eb bm x) w x4 := OX.trans O4 (fun x hx q r => by rw [q] at hx r; exact absurd (G2.ig.pk.lt g r) (by rw [hg]; exact Nat.lt_irrefl g))
  have hs4 : Snt x4 e0 e1 e2 := hs.below G4.bel
  have g0' := hs4.g0
  have HA := hide (csaveNew_ok G4 ho p hl d hdd hT t ht hz)
  have HI := hide (is_same e0 x4)
  have X3' := hide (And.intro G4 OX4)
  clear G4 OX4 hs4 O4
  have X3 := hide (And.intro G3 OX)
  clear h ho hs G2 O2 B3 hb3 G3 OX hs3 HF X0 X1
  clear hT hl hz ht
  go_wp2_with fail
  refine (unhide HI).mono ?_
  rintro e w' ⟨rfl, hw'⟩
  subst w'
  clear HI
  go_wp2_with fail
  refine (unhide HA).mono ?_
  rintro e x4 ⟨rfl, k⟩
  have X4 := hide (CChg.from ((unhide X3').2.mono (fun x _ q r => q (.inl r))) k)
  clear k HA
  go_wp2
  go_ret3
  exact ⟨rfl, unhide X4⟩
end Go.Proofs.YtdpnbemagiekoaaGreatDoor

namespace Go.Proofs.YtdpnbemagiekoaaGreatDoor
open Go.RowKit Go.Maps Go.Sort Go.Shelf
set_option maxRecDepth 100000 in
set_option maxHeartbeats 2000000 in
theorem cSave_new {w0 w : World} {b jb pb xb eb bm mb sb : Nat} {Y : Nat → Prop} {n : Nat} {S : PS} {L : List ByteArray} {A : List (Nat × Nat)} {hn : Nat} {Mw Mn : List ByteArray} {T : Nat → En} {B : Nat → Bool} {e0 e1 e2 : Addr} (h : CG w0 w b jb pb xb eb bm mb sb Y n S L A hn Mw Mn T T B) (ho : S.op = true) (hK : KTab w0) (hs : Snt w0 e0 e1 e2) (t : ByteArray) (ht : t.size = 256) (p : Nat) (hl : Lea B n p) (hT : ∀ j c, T j ≠ some (dgB t, c)) (hz : S.tx.length ≤ 13) : Calls Tryz.prog 12 #[.pointer (some ⟨sb, 0, none⟩), .string t] w fun e w' => e = .returned (.tuple #[.string (dgB t), .bool true, .int .i64 0]) ∧ CChg w0 w b jb pb xb eb bm mb sb Y n S L A hn Mw Mn [19, 30 + p, 20 + p / 6] (upd T p (some (dgB t, 1))) (upd T p (some (dgB t, 1))) (flp B p) (fun M => M.getD (30 + p) ByteArray.empty = t) w' := by
  have HS := hide (csave_new h ho hK hs t ht p hl hT hz)
  generalize dgB t = d at *
  clear h ho hK hs
  go_enter Tryz.func12, Tryz.ntmps12
  go_wp2_with fail
  refine (unhide HS).mono ?_
  rintro e x1 ⟨rfl, k⟩
  have X1 := hide k
  clear k HS
  go_wp2
  go_ret3
  exact ⟨rfl, unhide X1⟩
set_option maxRecDepth 100000 in
set_option maxHeartbeats 2000000 in
theorem cSave_max {w0 w : World} {b jb pb xb eb bm mb sb : Nat} {Y : Nat → Prop} {n : Nat} {S : PS} {L : List ByteArray} {A : List (Nat × Nat)} {hn : Nat} {Mw Mn : List ByteArray} {T : Nat → En} {B : Nat → Bool} {e0 e1 e2 : Addr} (h : CG w0 w b jb pb xb eb bm mb sb Y n S L A hn Mw Mn T T B) (ho : S.op = true) (hK : KTab w0) (hs : Snt w0 e0 e1 e2) (t : ByteArray) (ht : t.size = 256) (i : Nat) (hi : i < n) (hT : T i = some (dgB t, 65535)) (hD : Mn.getD (30 + i) ByteArray.empty = t) : Calls Tryz.prog 12 #[.pointer (some ⟨sb, 0, none⟩), .string t] w fun e w' => e = .returned (.tuple #[.string ⟨#[]⟩, .bool false, .int .i64 93]) ∧ CKept w0 w b jb pb xb eb bm mb sb Y n S L A hn Mw Mn T T B w' := by
  have HS := hide (csave_max h ho hK hs t ht i hi hT hD)
  generalize dgB t = d at *
  have X0 := hide hs
  clear h ho hK hs
  go_enter Tryz.func12, Tryz.ntmps12
  go_wp2_with fail
  refine (unhide HS).mono ?_
  rintro e x1 ⟨rfl, S1, k1, k2, k3, k4⟩
  have HA := hide (cans_count ((unhide X0).below k1.bel))
  have X1 := hide (And.intro k1 (And.intro k2 (And.intro k3 k4)))
  clear k1 k2 k3 k4 HS
  go_wp2_with (go_at_call 43; refine (unhide HA).mono ?_; rintro e w' ⟨rfl, hw'⟩; subst w')
  go_ret3
  exact ⟨rfl, S1, (unhide X1).1, (unhide X1).2.1, (unhide X1).2.2.1, (unhide X1).2.2.2⟩
set_option maxRecDepth 100000 in
set_option maxHeartbeats 2000000 in
theorem cHold_ok {w0 w : World} {b jb pb xb eb bm mb sb : Nat} {Y : Nat → Prop} {n : Nat} {S : PS} {L : List ByteArray} {A : List (Nat × Nat)} {hn : Nat} {Mw Mn : List ByteArray} {T : Nat → En} {B : Nat → Bool} {e0 e1 e2 : Addr} (h : CG w0 w b jb pb xb eb bm mb sb Y n S L A hn Mw Mn T T B) (ho : S.op = true) (hs : Snt w0 e0 e1 e2) (i : Nat) (hi : i < n) (d : ByteArray) (c : Nat) (hc : c ≤ 65534) (hT : T i = some (d, c)) (hr : roomB S ((20 + i / 6 : Nat) : Int) = true) : Calls Tryz.prog 15 #[.pointer (some ⟨sb, 0, none⟩), .string d] w fun e w' => e = .returned (.int .i64 0) ∧ CChg w0 w b jb pb xb eb bm mb sb Y n S L A hn Mw Mn [20 + i / 6] (upd T i (some (d, c + 1))) (upd T i (some (d, c + 1))) B (fun _ => True) w' := by
  have HF := hide (cftc_hit h ho hs i hi d c hT)
  try simp only [Int.cast_ofNat_Int] at HF
  have X0 := hide (And.intro h (And.intro ho hs))
  clear h ho hs
  go_enter Tryz.func15, Tryz.ntmps15
  go_wp2_with fail
  refine (unhide HF).mono ?_
  rintro e x2 ⟨rfl, G2, O2⟩
  obtain ⟨h, ho, hs⟩ := unhide X0
  obtain ⟨g, hg⟩ : ∃ q, x2.heap.size = q := ⟨_, rfl⟩
  obtain ⟨x3, hx3⟩ : ∃ q, x2.alloc (.cells #[.int .i64 (i : Int), .string d, .int .i64 (c : Int)] 40) = q := ⟨_, rfl⟩
  have hb3 : Below x2.heap.size x2 x3 := by rw [← hx3]; exact (Below.refl _ x2).alloc (Nat.le_refl _) _
  have B3 : Blk x3 g #[.int .i64 (i : Int), .string d, .int .i64 (c : Int)] 40 := by rw [← hx3, ← hg]; exact Blk.new x2 _ _
  have G3 := G2.below hb3
  have OX : Only (fun x => ¬ Xf Y xb eb bm x) w x3 := O2.trans (Only.of_below (P := fun x => ¬ Xf Y xb eb bm x) hb3) (fun _ _ q => q)
  have hs3 : Snt x3 e0 e1 e2 := hs.below G3.bel
  have a0 : x3.cell? ⟨g, 0, none⟩ = some (.int .i64 (i : Int)) := B3.cell 0
  have a1 : x3.cell? ⟨g, 1, none⟩ = some (.string d) := B3.cell 1
  have a2 : x3.cell? ⟨g, 2, none⟩ = some (.int .i64 (c : Int)) := B3.cell 2
  have HC := hide (ccountUp_ok G3 ho i hi d c hc hT hr)
  have HA := hide (fun W => cans_nil W)
  have X3 := hide OX
  clear h ho hs G2 O2 B3 hb3 G3 OX hs3 HF X0 hT hr hi
  go_wp2_with fail
  refine (unhide HC).mono ?_
  rintro e x4 ⟨rfl, k⟩
  have X4 := hide (CChg.from ((unhide X3).mono (fun x _ q r => q (.inl r))) k)
  clear k HC
  go_wp2_with (go_at_call 43; refine (unhide HA _).mono ?_; rintro e w' ⟨rfl, hw'⟩; subst w')
  go_ret
  exact ⟨rfl, unhide X4⟩
set_option maxRecDepth 100000 in
set_option maxHeartbeats 2000000 in
theorem cHold_max {w0 w : World} {b jb pb xb eb bm mb sb : Nat} {Y : Nat → Prop} {n : Nat} {S : PS} {L : List ByteArray} {A : List (Nat × Nat)} {hn : Nat} {Mw Mn : List ByteArray} {T : Nat → En} {B : Nat → Bool} {e0 e1 e2 : Addr} (h : CG w0 w b jb pb xb eb bm mb sb Y n S L A hn Mw Mn T T B) (ho : S.op = true) (hs : Snt w0 e0 e1 e2) (i : Nat) (hi : i < n) (d : ByteArray) (hT : T i = some (d, 65535)) : Calls Tryz.prog 15 #[.pointer (some ⟨sb, 0, none⟩), .string d] w fun e w' => e = .returned (.int .i64 93) ∧ CKept w0 w b jb pb xb eb bm mb sb Y n S L A hn Mw Mn T T B w' := by
  have HF := hide (cftc_hit h ho hs i hi d 65535 hT)
  try simp only [Int.cast_ofNat_Int] at HF
  have X0 := hide (And.intro h (And.intro ho hs))
  clear h ho hs
  go_enter Tryz.func15, Tryz.ntmps15
  go_wp2_with fail
  refine (unhide HF).mono ?_
  rintro e x2 ⟨rfl, G2, O2⟩
  obtain ⟨h, ho, hs⟩ := unhide X0
  obtain ⟨g, hg⟩ : ∃ q, x2.heap.size = q := ⟨_, rfl⟩
  obtain ⟨x3, hx3⟩ : ∃ q, x2.alloc (.cells #[.int .i64 (i : Int), .string d, .int .i64 65535] 40) = q := ⟨_, rfl⟩
  have hb3 : Below x2.heap.size x2 x3 := by rw [← hx3]; exact (Below.refl _ x2).alloc (Nat.le_refl _) _
  have B3 : Blk x3 g #[.int .i64 (i : Int), .string d, .int .i64 65535] 40 := by rw [← hx3, ← hg]; exact Blk.new x2 _ _
  have G3 := G2.below hb3
  have OX : Only (fun x => ¬ Xf Y xb eb bm x) w x3 := O2.trans (Only.of_below (P := fun x => ¬ Xf Y xb eb bm x) hb3) (fun _ _ q => q)
  have hs3 : Snt x3 e0 e1 e2 := hs.below G3.bel
  have a0 : x3.cell? ⟨g, 0, none⟩ = some (.int .i64 (i : Int)) := B3.cell 0
  have a1 : x3.cell? ⟨g, 1, none⟩ = some (.string d) := B3.cell 1
  have a2 : x3.cell? ⟨g, 2, none⟩ = some (.int .i64 65535) := B3.cell 2
  have HC := hide (ccountUp_max hs3 sb i d)
  have HA := hide (fun W (hW : Below x3.heap.size x3 W) => cans_count (hs3.below hW))
  have X3 := hide (And.intro G3 OX)
  clear h ho hs G2 O2 B3 hb3 G3 OX hs3 HF X0 hT hi
  go_wp2_with fail
  refine (unhide HC).mono ?_
  rintro e x4 ⟨rfl, hb4⟩
  have HA' := hide (unhide HA x4 hb4)
  have X4 := hide (And.intro ((unhide X3).1.below hb4) ((unhide X3).2.trans (Only.of_below (P := fun x => ¬ Xf Y xb eb bm x) hb4) (fun _ _ q => q)))
  clear hb4 HC HA X3
  go_wp2_with (go_at_call 43; refine (unhide HA').mono ?_; rintro e w' ⟨rfl, hw'⟩; subst w')
  go_ret
  exact ⟨rfl, S, (unhide X4).1, rfl, Tk.refl _, (unhide X4).2⟩
set_option maxRecDepth 100000 in
set_option maxHeartbeats 2000000 in
theorem cDrop_more {w0 w : World} {b jb pb xb eb bm mb sb : Nat} {Y : Nat → Prop} {n : Nat} {S : PS} {L : List ByteArray} {A : List (Nat × Nat)} {hn : Nat} {Mw Mn : List ByteArray} {T : Nat → En} {B : Nat → Bool} {e0 e1 e2 : Addr} (h : CG w0 w b jb pb xb eb bm mb sb Y n S L A hn Mw Mn T T B) (ho : S.op = true) (hs : Snt w0 e0 e1 e2) (i : Nat) (hi : i < n) (d : ByteArray) (c : Nat) (hc : 2 ≤ c) (hT : T i = some (d, c)) (hr : roomB S ((20 + i / 6 : Nat) : Int) = true) : Calls Tryz.prog 20 #[.pointer (some ⟨sb, 0, none⟩), .string d] w fun e w' => e = .returned (.tuple #[.bool false, .int .i64 0]) ∧ CChg w0 w b jb pb xb eb bm mb sb Y n S L A hn Mw Mn [20 + i / 6] (upd T i (some (d, c - 1))) (upd T i (some (d, c - 1))) B (fun _ => True) w' := by
  have HF := hide (cftc_hit h ho hs i hi d c hT)
  try simp only [Int.cast_ofNat_Int] at HF
  have X0 := hide (And.intro h (And.intro ho hs))
  clear h ho hs
  go_enter Tryz.func20, Tryz.ntmps20
  go_wp2_with fail
  refine (unhide HF).mono ?_
  rintro e x2 ⟨rfl, G2, O2⟩
  obtain ⟨h, ho, hs⟩ := unhide X0
  obtain ⟨g, hg⟩ : ∃ q, x2.heap.size = q := ⟨_, rfl⟩
  obtain ⟨x3, hx3⟩ : ∃ q, x2.alloc (.cells #[.int .i64 (i : Int), .string d, .int .i64 (c : Int)] 40) = q := ⟨_, rfl⟩
  have hb3 : Below x2.heap.size x2 x3 := by rw [← hx3]; exact (Below.refl _ x2).alloc (Nat.le_refl _) _
  have B3 : Blk x3 g #[.int .i64 (i : Int), .string d, .int .i64 (c : Int)] 40 := by rw [← hx3, ← hg]; exact Blk.new x2 _ _
  have G3 := G2.below hb3
  have OX : Only (fun x => ¬ Xf Y xb eb bm x) w x3 := O2.trans (Only.of_below (P := fun x => ¬ Xf Y xb eb bm x) hb3) (fun _ _ q => q)
  have hs3 : Snt x3 e0 e1 e2 := hs.below G3.bel
  have a0 : x3.cell? ⟨g, 0, none⟩ = some (.int .i64 (i : Int)) := B3.cell 0
  have a1 : x3.cell? ⟨g, 1, none⟩ = some (.string d) := B3.cell 1
  have a2 : x3.cell? ⟨g, 2, none⟩ = some (.int .i64 (c : Int)) := B3.cell 2
  have HC := hide (ccountDown_ok G3 ho i hi d c hc hT hr)
  have h1 : ((c : Int) == 1) = false := by simp; omega
  have X3 := hide OX
  clear h ho hs G2 O2 B3 hb3 G3 OX hs3 HF X0 hT hr hi
  go_wp2_with fail
  refine (unhide HC).mono ?_
  rintro e x4 ⟨rfl, k⟩
  have X4 := hide (CChg.from ((unhide X3).mono (fun x _ q r => q (.inl r))) k)
  clear k HC
  go_wp2
  go_ret2
  exact ⟨rfl, unhide X4⟩
set_option maxRecDepth 100000 in
set_option maxHeartbeats 2000000 in
theorem cCount_hit {w0 w : World} {b jb pb xb eb bm mb sb : Nat} {Y : Nat → Prop} {n : Nat} {S : PS} {L : List ByteArray} {A : List (Nat × Nat)} {hn : Nat} {Mw Mn : List ByteArray} {T U : Nat → En} {B : Nat → Bool} (h : CG w0 w b jb pb xb eb bm mb sb Y n S L A hn Mw Mn T U B) (i : Nat) (hi : i < n) (d : ByteArray) (c : Nat) (hU : U i = some (d, c)) : Calls Tryz.prog 17 #[.pointer (some ⟨sb, 0, none⟩), .string d] w fun e w' => e = .returned (.int .i64 (c : Int)) ∧ Below w.heap.size w w' := by
  have HF := hide (cfind_hit h i hi d c hU)
  clear h hi hU
  go_enter Tryz.func17, Tryz.ntmps17
  go_wp2_with fail
  refine (unhide HF).mono ?_
  rintro e x2 ⟨rfl, hb2⟩
  obtain ⟨g, hg⟩ : ∃ q, x2.heap.size = q := ⟨_, rfl⟩
  obtain ⟨x3, hx3⟩ : ∃ q, x2.alloc (.cells #[.int .i64 (i : Int), .string d, .int .i64 (c : Int)] 40) = q := ⟨_, rfl⟩
  have hb3 : Below x2.heap.size x2 x3 := by rw [← hx3]; exact (Below.refl _ x2).alloc (Nat.le_refl _) _
  have B3 : Blk x3 g #[.int .i64 (i : Int), .string d, .int .i64 (c : Int)] 40 := by rw [← hx3, ← hg]; exact Blk.new x2 _ _
  have a2 : x3.cell? ⟨g, 2, none⟩ = some (.int .i64 (c : Int)) := B3.cell 2
  have X3 := hide (hb2.trans (hb3.mono hb2.size))
  clear hb2 hb3 B3 HF
  go_wp2
  go_ret
  exact ⟨rfl, unhide X3⟩
end Go.Proofs.YtdpnbemagiekoaaGreatDoor

namespace Go.Proofs.YtdpnbemagiekoaaGreatDoor
open Go.RowKit Go.Maps Go.Sort Go.Shelf
/-- The cells of the law's parts. -/
def Pcl (b pb mb xb sb : Nat) : Array Value := #[.pointer (some ⟨b, 0, none⟩), .pointer (some ⟨pb, 0, none⟩), .pointer (some ⟨mb, 0, none⟩), .pointer (some ⟨xb, 0, none⟩), .pointer (some ⟨sb, 0, none⟩)]
def Yc (mb sb gb : Nat) : Nat → Prop := fun x => x = mb ∨ x = sb ∨ x = gb
/-- The transaction has written the pages of map and index, and few data sectors. -/
def TxC (S : PS) (z : Nat) : Prop := ∃ Z : List Int, Z.length ≤ z ∧ ∀ p ∈ S.tx, (19 ≤ p.1 ∧ p.1 < 24) ∨ p.1 ∈ Z
theorem TxC.len {S : PS} {z : Nat} (h : TxC S z) (hs : Srt S.tx) : S.tx.length ≤ 5 + z := by
  obtain ⟨Z, h1, h2⟩ := h
  have h3 : (S.tx.map (·.1)).Nodup := List.pairwise_map.2 (hs.imp (fun q => by omega))
  have h4 := nodup_sub (S.tx.map (·.1)) ([19, 20, 21, 22, 23] ++ Z) h3 (fun x hx => by
    obtain ⟨p, hp, rfl⟩ := List.mem_map.1 hx
    rcases h2 p hp with q | q
    · refine List.mem_append.2 (.inl ?_)
      have : p.1 = 19 ∨ p.1 = 20 ∨ p.1 = 21 ∨ p.1 = 22 ∨ p.1 = 23 := by omega
      rcases this with e | e | e | e | e <;> rw [e] <;> decide
    · exact List.mem_append.2 (.inr q))
  rw [List.length_map, List.length_append] at h4
  simp only [List.length_cons, List.length_nil] at h4
  omega
theorem TxC.room {S : PS} {z : Nat} (h : TxC S z) (hs : Srt S.tx) (hz : z ≤ 10) (i : Int) : roomB S i = true := by
  have := h.len hs
  unfold roomB
  rw [Bool.or_eq_true]
  exact .inr (decide_eq_true (by omega))
/-- A store between calls, and the law's box of its parts: Tw, Bw, Dw were committed, T, B, D are what the transaction sees, U what the index's memory knows. -/
def CSt (w0 w : World) (b jb pb xb mb sb gb n z : Nat) (op : Bool) (L : List ByteArray) (A : List (Nat × Nat)) (hn : Nat) (Tw T U : Nat → En) (Bw B : Nat → Bool) (Dw D : Nat → ByteArray) : Prop :=
  ∃ S eb bm Mw Mn, CG w0 w b jb pb xb eb bm mb sb (Yc mb sb gb) n S L A hn Mw Mn T U B ∧ (S.op = op ∧ S.keep = 4 ∧ TxC S z) ∧ (IS Mw 20 n Tw ∧ TOk n Tw ∧ MS Mw 19 n Bw) ∧ ((∀ i, i < n → Mw.getD (30 + i) ByteArray.empty = Dw i) ∧ (∀ i, i < n → Mn.getD (30 + i) ByteArray.empty = D i)) ∧ Blk w gb (Pcl b pb mb xb sb) 32
theorem CSt.c {w0 w : World} {b jb pb xb mb sb gb n z : Nat} {op : Bool} {L : List ByteArray} {A : List (Nat × Nat)} {hn : Nat} {Tw T U : Nat → En} {Bw B : Nat → Bool} {Dw D : Nat → ByteArray} (h : CSt w0 w b jb pb xb mb sb gb n z op L A hn Tw T U Bw B Dw D) : w.cell? ⟨gb, 0, none⟩ = some (.pointer (some ⟨b, 0, none⟩)) ∧ w.cell? ⟨gb, 1, none⟩ = some (.pointer (some ⟨pb, 0, none⟩)) ∧ w.cell? ⟨gb, 2, none⟩ = some (.pointer (some ⟨mb, 0, none⟩)) ∧ w.cell? ⟨gb, 3, none⟩ = some (.pointer (some ⟨xb, 0, none⟩)) ∧ w.cell? ⟨gb, 4, none⟩ = some (.pointer (some ⟨sb, 0, none⟩)) := by
  obtain ⟨S, eb, bm, Mw, Mn, h1, h2, h3, h4, h5⟩ := h
  exact ⟨by rw [h5.cell]; rfl, by rw [h5.cell]; rfl, by rw [h5.cell]; rfl, by rw [h5.cell]; rfl, by rw [h5.cell]; rfl⟩
theorem CSt.bel {w0 w : World} {b jb pb xb mb sb gb n z : Nat} {op : Bool} {L : List ByteArray} {A : List (Nat × Nat)} {hn : Nat} {Tw T U : Nat → En} {Bw B : Nat → Bool} {Dw D : Nat → ByteArray} (h : CSt w0 w b jb pb xb mb sb gb n z op L A hn Tw T U Bw B Dw D) : Below w0.heap.size w0 w := by
  obtain ⟨S, eb, bm, Mw, Mn, h1, h2, h3, h4, h5⟩ := h
  exact h1.bel
theorem CSt.below {w0 w : World} {b jb pb xb mb sb gb n z : Nat} {op : Bool} {L : List ByteArray} {A : List (Nat × Nat)} {hn : Nat} {Tw T U : Nat → En} {Bw B : Nat → Bool} {Dw D : Nat → ByteArray} (h : CSt w0 w b jb pb xb mb sb gb n z op L A hn Tw T U Bw B Dw D) {w' : World} (hb : Below w.heap.size w w') : CSt w0 w' b jb pb xb mb sb gb n z op L A hn Tw T U Bw B Dw D := by
  obtain ⟨S, eb, bm, Mw, Mn, h1, h2, h3, h4, h5⟩ := h
  exact ⟨S, eb, bm, Mw, Mn, h1.below hb, h2, h3, h4, h5.below hb h5.lt⟩
theorem CSt.begin {w0 w : World} {b jb pb xb mb sb gb n z : Nat} {L : List ByteArray} {A : List (Nat × Nat)} {hn : Nat} {Tw T U : Nat → En} {Bw B : Nat → Bool} {Dw D : Nat → ByteArray} (h : CSt w0 w b jb pb xb mb sb gb n z false L A hn Tw T U Bw B Dw D) : Calls Tryz.prog 11 #[.pointer (some ⟨pb, 0, none⟩)] w fun e w' => e = .returned (.int .i64 0) ∧ CSt w0 w' b jb pb xb mb sb gb n z true L A hn Tw T U Bw B Dw D := by
  obtain ⟨S, eb, bm, Mw, Mn, h1, ⟨h2, h2k, h2t⟩, h3, h4, h5⟩ := h
  obtain ⟨s1, s2, s3, s4⟩ := h1.ig.seen.begin
  rw [h2] at s1
  have hc := pbegin_any h1.ig.pk
  rw [show beginE S = 0 from s1] at hc
  refine hc.mono ?_
  rintro e w' ⟨rfl, K, hO⟩
  exact ⟨rfl, _, eb, bm, Mw, Mn, h1.next K hO s2 h1.ig.is h1.ig.ok h1.ms, ⟨s3, by rw [← h2k]; unfold beginS; split <;> (try split) <;> rfl, by unfold TxC; rw [s4]; exact h2t⟩, h3, h4, h5.only hO (fun q => q (.inl (.inr (.inr rfl))))⟩
theorem CSt.commit {w0 w : World} {b jb pb xb mb sb gb n z : Nat} {L : List ByteArray} {A : List (Nat × Nat)} {hn : Nat} {Tw T U : Nat → En} {Bw B : Nat → Bool} {Dw D : Nat → ByteArray} (h : CSt w0 w b jb pb xb mb sb gb n z true L A hn Tw T U Bw B Dw D) (ha : A.length ≤ 1000000) : Calls Tryz.prog 16 #[.pointer (some ⟨pb, 0, none⟩)] w fun e w' => e = .returned (.int .i64 0) ∧ ∃ L' A', A'.length ≤ A.length + 38 ∧ CSt w0 w' b jb pb xb mb sb gb n 0 false L' A' ((hn + 1) % 4294967296) T T U B B D D := by
  obtain ⟨S, eb, bm, Mw, Mn, h1, ⟨h2, h2k, h2t⟩, h3, h4, h5⟩ := h
  obtain ⟨s1, s2, s3⟩ := h1.ig.seen.commit h2 h1.bg.srt h1.bg.t16 h1.bg.tok
  have hc := pcommit_any h1.ig.pk (by rw [h1.ig.seen.rst.nx]; exact Nat.mod_lt _ (by decide)) (by rw [h1.ig.seen.rst.s]; exact Nat.zero_le _) (by rw [h1.ig.seen.rst.s]; show A.length ≤ _; omega)
  rw [s1] at hc
  refine hc.mono ?_
  rintro e w' ⟨rfl, K, hO⟩
  refine ⟨rfl, _, _, ?_, _, eb, bm, Mn, Mn, h1.next K hO s2 h1.ig.is h1.ig.ok h1.ms, ⟨s3, ?_, [], Nat.le_refl _, ?_⟩, ⟨h1.ig.is, h1.ig.ok, h1.ms⟩, ⟨h4.2, h4.2⟩, h5.only hO (fun q => q (.inl (.inr (.inr rfl))))⟩
  · rw [List.length_append, comA_len _ h1.bg.t16]
    exact Nat.le_refl _
  · rw [← h2k]
    exact (commit_rest h1.ig.seen.rst h2 h1.ig.seen.len (tx_good h1.bg.srt h1.bg.t16 h1.bg.tok)).2.2.2.2.1
  · rw [s2.cl s3]
    intro p hp
    cases hp
theorem CSt.abort {w0 w : World} {b jb pb xb mb sb gb n z : Nat} {L : List ByteArray} {A : List (Nat × Nat)} {hn : Nat} {Tw T U : Nat → En} {Bw B : Nat → Bool} {Dw D : Nat → ByteArray} (h : CSt w0 w b jb pb xb mb sb gb n z true L A hn Tw T U Bw B Dw D) : Calls Tryz.prog 18 #[.pointer (some ⟨pb, 0, none⟩)] w fun e w' => e = .returned (.int .i64 0) ∧ CSt w0 w' b jb pb xb mb sb gb n 0 false L A hn Tw Tw U Bw Bw Dw Dw := by
  obtain ⟨S, eb, bm, Mw, Mn, h1, ⟨h2, h2k, h2t⟩, h3, h4, h5⟩ := h
  have hc := pabort_any h1.ig.pk
  rw [show abortE S = 0 from by simp [abortE, h2], show abortS S = endS S from by simp [abortS, h2]] at hc
  refine hc.mono ?_
  rintro e w' ⟨rfl, K, hO⟩
  exact ⟨rfl, _, eb, bm, Mw, Mw, h1.next K hO (h1.ig.seen.back (endS S) (end_rest h1.ig.seen.rst) rfl h1.ig.seen.hok) h3.1 h3.2.1 h3.2.2, ⟨rfl, h2k, [], Nat.le_refl _, fun p hp => (by cases hp)⟩, h3, ⟨h4.1, h4.1⟩, h5.only hO (fun q => q (.inl (.inr (.inr rfl))))⟩
theorem CSt.reload {w0 w : World} {b jb pb xb mb sb gb n z : Nat} {op : Bool} {L : List ByteArray} {A : List (Nat × Nat)} {hn : Nat} {Tw T U : Nat → En} {Bw B : Nat → Bool} {Dw D : Nat → ByteArray} (h : CSt w0 w b jb pb xb mb sb gb n z op L A hn Tw T U Bw B Dw D) : Calls Tryz.prog 19 #[.pointer (some ⟨xb, 0, none⟩)] w fun e w' => e = .returned (.int .i64 0) ∧ CSt w0 w' b jb pb xb mb sb gb n z op L A hn Tw T T Bw B Dw D := by
  obtain ⟨S, eb, bm, Mw, Mn, h1, ⟨h2, h2k, h2t⟩, h3, h4, h5⟩ := h
  refine (ireload_any h1.ig).mono ?_
  rintro e w' ⟨rfl, S', eb', bm', k1, k2, k3, k4⟩
  exact ⟨rfl, S', eb', bm', Mw, Mn, h1.turn k1 k4 h1.ms, ⟨k2.trans h2, k3.2.trans h2k, by unfold TxC; rw [k3.1]; exact h2t⟩, h3, h4, h5.only k4 (fun q => q (.inr (.inr rfl)))⟩
theorem CSt.find {w0 w : World} {b jb pb xb mb sb gb n z : Nat} {op : Bool} {L : List ByteArray} {A : List (Nat × Nat)} {hn : Nat} {Tw T U : Nat → En} {Bw B : Nat → Bool} {Dw D : Nat → ByteArray} (h : CSt w0 w b jb pb xb mb sb gb n z op L A hn Tw T U Bw B Dw D) (i : Nat) (d : ByteArray) (c : Nat) (hU : U i = some (d, c)) : Calls Tryz.prog 13 #[.pointer (some ⟨xb, 0, none⟩), .string d] w fun e w' => e = .returned (.tuple #[.int .i64 (i : Int), .bool true]) ∧ CSt w0 w' b jb pb xb mb sb gb n z op L A hn Tw T U Bw B Dw D := by
  have h' := h
  obtain ⟨S, eb, bm, Mw, Mn, h1, _⟩ := h
  refine (h1.find i d c hU).mono ?_
  rintro e w' ⟨rfl, hb⟩
  exact ⟨rfl, h'.below hb⟩
/-- A change of pages alone. -/
theorem CSt.chg {w0 w : World} {b jb pb xb mb sb gb n z : Nat} {L : List ByteArray} {A : List (Nat × Nat)} {hn : Nat} {Tw T' U' : Nat → En} {Bw B' : Nat → Bool} {Dw D : Nat → ByteArray} {S : PS} {eb bm : Nat} {Mw Mn : List ByteArray} {Q : List Nat} {R : List ByteArray → Prop} {w' : World} (h2k : S.keep = 4) (h2t : TxC S z) (h3 : IS Mw 20 n Tw ∧ TOk n Tw ∧ MS Mw 19 n Bw) (h4 : (∀ i, i < n → Mw.getD (30 + i) ByteArray.empty = Dw i) ∧ (∀ i, i < n → Mn.getD (30 + i) ByteArray.empty = D i)) (h5 : Blk w gb (Pcl b pb mb xb sb) 32) (k : CChg w0 w b jb pb xb eb bm mb sb (Yc mb sb gb) n S L A hn Mw Mn Q T' U' B' R w') (hQ : ∀ q ∈ Q, 19 ≤ q ∧ q < 24) : CSt w0 w' b jb pb xb mb sb gb n z true L A hn Tw T' U' Bw B' Dw D := by
  obtain ⟨S', Mn', k1, k2, k3, k4, k5, k6, k7⟩ := k
  have hn24 := k1.n24
  refine ⟨S', eb, bm, Mw, Mn', k1, ⟨k2, k3.trans h2k, ?_⟩, h3, ⟨h4.1, fun i hi => ?_⟩, h5.only k7 (fun q => q (.inr (.inr rfl)))⟩
  · obtain ⟨Z, z1, z2⟩ := h2t
    refine ⟨Z, z1, fun p hp => ?_⟩
    rcases k4 p hp with q | ⟨q, hq, e⟩
    · exact z2 p q
    · have := hQ q hq
      exact .inl (by omega)
  · rw [k5 (30 + i) (by omega) (by omega) (fun q => by have := hQ _ q; omega)]
    exact h4.2 i hi
/-- A change that writes a data sector. -/
theorem CSt.chg1 {w0 w : World} {b jb pb xb mb sb gb n z : Nat} {L : List ByteArray} {A : List (Nat × Nat)} {hn : Nat} {Tw T' U' : Nat → En} {Bw B' : Nat → Bool} {Dw D : Nat → ByteArray} {S : PS} {eb bm : Nat} {Mw Mn : List ByteArray} {Q : List Nat} {R : List ByteArray → Prop} {w' : World} (h2k : S.keep = 4) (h2t : TxC S z) (h3 : IS Mw 20 n Tw ∧ TOk n Tw ∧ MS Mw 19 n Bw) (h4 : (∀ i, i < n → Mw.getD (30 + i) ByteArray.empty = Dw i) ∧ (∀ i, i < n → Mn.getD (30 + i) ByteArray.empty = D i)) (h5 : Blk w gb (Pcl b pb mb xb sb) 32) (k : CChg w0 w b jb pb xb eb bm mb sb (Yc mb sb gb) n S L A hn Mw Mn Q T' U' B' R w') (p : Nat) (t : ByteArray) (hQ : ∀ q ∈ Q, (19 ≤ q ∧ q < 24) ∨ q = 30 + p) (hR : ∀ M, R M → M.getD (30 + p) ByteArray.empty = t) : CSt w0 w' b jb pb xb mb sb gb n (z + 1) true L A hn Tw T' U' Bw B' Dw (fun i => if i = p then t else D i) := by
  obtain ⟨S', Mn', k1, k2, k3, k4, k5, k6, k7⟩ := k
  have hn24 := k1.n24
  refine ⟨S', eb, bm, Mw, Mn', k1, ⟨k2, k3.trans h2k, ?_⟩, h3, ⟨h4.1, fun i hi => ?_⟩, h5.only k7 (fun q => q (.inr (.inr rfl)))⟩
  · obtain ⟨Z, z1, z2⟩ := h2t
    refine ⟨((30 + p : Nat) : Int) :: Z, by simp only [List.length_cons]; omega, fun x hx => ?_⟩
    rcases k4 x hx with q | ⟨q, hq, e⟩
    · exact (z2 x q).imp_right (fun r => List.mem_cons.2 (.inr r))
    · rcases hQ q hq with r | r
      · exact .inl (by omega)
      · exact .inr (List.mem_cons.2 (.inl (by rw [e, r])))
  · show Mn'.getD (30 + i) ByteArray.empty = if i = p then t else D i
    by_cases e : i = p
    · subst e
      rw [if_pos rfl]
      exact hR _ k6
    · rw [if_neg e, k5 (30 + i) (by omega) (by omega) (fun q => by have := hQ _ q; omega)]
      exact h4.2 i hi
theorem CSt.put {w0 w : World} {b jb pb xb mb sb gb n z : Nat} {L : List ByteArray} {A : List (Nat × Nat)} {hn : Nat} {Tw T : Nat → En} {Bw B : Nat → Bool} {Dw D : Nat → ByteArray} (h : CSt w0 w b jb pb xb mb sb gb n z true L A hn Tw T T Bw B Dw D) (hz : z ≤ 10) (i : Nat) (hi : i < n) (d : ByteArray) (hd : d.size = 32) (c : Nat) (hc1 : 1 ≤ c) (hc2 : c ≤ 65535) (hf : ∀ j c', T j = some (d, c') → j = i) : Calls Tryz.prog 14 #[.pointer (some ⟨xb, 0, none⟩), .agg #[.int .i64 (i : Int), .string d, .int .i64 (c : Int)]] w fun e w' => e = .returned (.int .i64 0) ∧ CSt w0 w' b jb pb xb mb sb gb n z true L A hn Tw (upd T i (some (d, c))) (upd T i (some (d, c))) Bw B Dw D := by
  obtain ⟨S, eb, bm, Mw, Mn, h1, ⟨h2, h2k, h2t⟩, h3, h4, h5⟩ := h
  have hn24 := h1.n24
  refine (h1.put h2 i hi d hd c hc1 hc2 hf (h2t.room h1.srt hz _)).mono ?_
  rintro e w' ⟨rfl, k⟩
  exact ⟨rfl, CSt.chg h2k h2t h3 h4 h5 k (fun q hq => by rw [List.mem_singleton] at hq; omega)⟩
theorem CSt.kept {w0 w : World} {b jb pb xb mb sb gb n z : Nat} {op : Bool} {L : List ByteArray} {A : List (Nat × Nat)} {hn : Nat} {Tw T U : Nat → En} {Bw B : Nat → Bool} {Dw D : Nat → ByteArray} {S : PS} {eb bm : Nat} {Mw Mn : List ByteArray} {w' : World} (h2 : S.op = op) (h2k : S.keep = 4) (h2t : TxC S z) (h3 : IS Mw 20 n Tw ∧ TOk n Tw ∧ MS Mw 19 n Bw) (h4 : (∀ i, i < n → Mw.getD (30 + i) ByteArray.empty = Dw i) ∧ (∀ i, i < n → Mn.getD (30 + i) ByteArray.empty = D i)) (h5 : Blk w gb (Pcl b pb mb xb sb) 32) (k : CKept w0 w b jb pb xb eb bm mb sb (Yc mb sb gb) n S L A hn Mw Mn T U B w') : CSt w0 w' b jb pb xb mb sb gb n z op L A hn Tw T U Bw B Dw D := by
  obtain ⟨S', k1, k2, k3, k4⟩ := k
  exact ⟨S', eb, bm, Mw, Mn, k1, ⟨k2.trans h2, k3.2.trans h2k, by unfold TxC; rw [k3.1]; exact h2t⟩, h3, h4, h5.only k4 (fun q => q (.inl (.inr (.inr rfl))))⟩
theorem CSt.save_new {w0 w : World} {b jb pb xb mb sb gb n z : Nat} {L : List ByteArray} {A : List (Nat × Nat)} {hn : Nat} {Tw T : Nat → En} {Bw B : Nat → Bool} {Dw D : Nat → ByteArray} {e0 e1 e2 : Addr} (h : CSt w0 w b jb pb xb mb sb gb n z true L A hn Tw T T Bw B Dw D) (hz : z ≤ 8) (hK : KTab w0) (hs : Snt w0 e0 e1 e2) (t : ByteArray) (ht : t.size = 256) (p : Nat) (hl : Lea B n p) (hT : ∀ j c, T j ≠ some (dgB t, c)) : Calls Tryz.prog 12 #[.pointer (some ⟨sb, 0, none⟩), .string t] w fun e w' => e = .returned (.tuple #[.string (dgB t), .bool true, .int .i64 0]) ∧ CSt w0 w' b jb pb xb mb sb gb n (z + 1) true L A hn Tw (upd T p (some (dgB t, 1))) (upd T p (some (dgB t, 1))) Bw (flp B p) Dw (fun i => if i = p then t else D i) := by
  obtain ⟨S, eb, bm, Mw, Mn, h1, ⟨h2, h2k, h2t⟩, h3, h4, h5⟩ := h
  have hp := hl.1
  have hn24 := h1.n24
  have hlen := h2t.len h1.srt
  refine (cSave_new h1 h2 hK hs t ht p hl hT (by omega)).mono ?_
  rintro e w' ⟨rfl, k⟩
  exact ⟨rfl, CSt.chg1 h2k h2t h3 h4 h5 k p t (fun q hq => by simp only [List.mem_cons, List.not_mem_nil, or_false] at hq; omega) (fun M hM => hM)⟩
theorem CSt.save_max {w0 w : World} {b jb pb xb mb sb gb n z : Nat} {L : List ByteArray} {A : List (Nat × Nat)} {hn : Nat} {Tw T : Nat → En} {Bw B : Nat → Bool} {Dw D : Nat → ByteArray} {e0 e1 e2 : Addr} (h : CSt w0 w b jb pb xb mb sb gb n z true L A hn Tw T T Bw B Dw D) (hK : KTab w0) (hs : Snt w0 e0 e1 e2) (t : ByteArray) (ht : t.size = 256) (i : Nat) (hi : i < n) (hT : T i = some (dgB t, 65535)) (hD : D i = t) : Calls Tryz.prog 12 #[.pointer (some ⟨sb, 0, none⟩), .string t] w fun e w' => e = .returned (.tuple #[.string ⟨#[]⟩, .bool false, .int .i64 93]) ∧ CSt w0 w' b jb pb xb mb sb gb n z true L A hn Tw T T Bw B Dw D := by
  obtain ⟨S, eb, bm, Mw, Mn, h1, ⟨h2, h2k, h2t⟩, h3, h4, h5⟩ := h
  refine (cSave_max h1 h2 hK hs t ht i hi hT ((h4.2 i hi).trans hD)).mono ?_
  rintro e w' ⟨rfl, k⟩
  exact ⟨rfl, CSt.kept h2 h2k h2t h3 h4 h5 k⟩
theorem CSt.hold {w0 w : World} {b jb pb xb mb sb gb n z : Nat} {L : List ByteArray} {A : List (Nat × Nat)} {hn : Nat} {Tw T : Nat → En} {Bw B : Nat → Bool} {Dw D : Nat → ByteArray} {e0 e1 e2 : Addr} (h : CSt w0 w b jb pb xb mb sb gb n z true L A hn Tw T T Bw B Dw D) (hz : z ≤ 10) (hs : Snt w0 e0 e1 e2) (i : Nat) (hi : i < n) (d : ByteArray) (c : Nat) (hc : c ≤ 65534) (hT : T i = some (d, c)) : Calls Tryz.prog 15 #[.pointer (some ⟨sb, 0, none⟩), .string d] w fun e w' => e = .returned (.int .i64 0) ∧ CSt w0 w' b jb pb xb mb sb gb n z true L A hn Tw (upd T i (some (d, c + 1))) (upd T i (some (d, c + 1))) Bw B Dw D := by
  obtain ⟨S, eb, bm, Mw, Mn, h1, ⟨h2, h2k, h2t⟩, h3, h4, h5⟩ := h
  have hn24 := h1.n24
  refine (cHold_ok h1 h2 hs i hi d c hc hT (h2t.room h1.srt hz _)).mono ?_
  rintro e w' ⟨rfl, k⟩
  exact ⟨rfl, CSt.chg h2k h2t h3 h4 h5 k (fun q hq => by rw [List.mem_singleton] at hq; omega)⟩
theorem CSt.hold_max {w0 w : World} {b jb pb xb mb sb gb n z : Nat} {L : List ByteArray} {A : List (Nat × Nat)} {hn : Nat} {Tw T : Nat → En} {Bw B : Nat → Bool} {Dw D : Nat → ByteArray} {e0 e1 e2 : Addr} (h : CSt w0 w b jb pb xb mb sb gb n z true L A hn Tw T T Bw B Dw D) (hs : Snt w0 e0 e1 e2) (i : Nat) (hi : i < n) (d : ByteArray) (hT : T i = some (d, 65535)) : Calls Tryz.prog 15 #[.pointer (some ⟨sb, 0, none⟩), .string d] w fun e w' => e = .returned (.int .i64 93) ∧ CSt w0 w' b jb pb xb mb sb gb n z true L A hn Tw T T Bw B Dw D := by
  obtain ⟨S, eb, bm, Mw, Mn, h1, ⟨h2, h2k, h2t⟩, h3, h4, h5⟩ := h
  refine (cHold_max h1 h2 hs i hi d hT).mono ?_
  rintro e w' ⟨rfl, k⟩
  exact ⟨rfl, CSt.kept h2 h2k h2t h3 h4 h5 k⟩
theorem CSt.drop_more {w0 w : World} {b jb pb xb mb sb gb n z : Nat} {L : List ByteArray} {A : List (Nat × Nat)} {hn : Nat} {Tw T : Nat → En} {Bw B : Nat → Bool} {Dw D : Nat → ByteArray} {e0 e1 e2 : Addr} (h : CSt w0 w b jb pb xb mb sb gb n z true L A hn Tw T T Bw B Dw D) (hz : z ≤ 10) (hs : Snt w0 e0 e1 e2) (i : Nat) (hi : i < n) (d : ByteArray) (c : Nat) (hc : 2 ≤ c) (hT : T i = some (d, c)) : Calls Tryz.prog 20 #[.pointer (some ⟨sb, 0, none⟩), .string d] w fun e w' => e = .returned (.tuple #[.bool false, .int .i64 0]) ∧ CSt w0 w' b jb pb xb mb sb gb n z true L A hn Tw (upd T i (some (d, c - 1))) (upd T i (some (d, c - 1))) Bw B Dw D := by
  obtain ⟨S, eb, bm, Mw, Mn, h1, ⟨h2, h2k, h2t⟩, h3, h4, h5⟩ := h
  have hn24 := h1.n24
  refine (cDrop_more h1 h2 hs i hi d c hc hT (h2t.room h1.srt hz _)).mono ?_
  rintro e w' ⟨rfl, k⟩
  exact ⟨rfl, CSt.chg h2k h2t h3 h4 h5 k (fun q hq => by rw [List.mem_singleton] at hq; omega)⟩
theorem CSt.count {w0 w : World} {b jb pb xb mb sb gb n z : Nat} {op : Bool} {L : List ByteArray} {A : List (Nat × Nat)} {hn : Nat} {Tw T U : Nat → En} {Bw B : Nat → Bool} {Dw D : Nat → ByteArray} (h : CSt w0 w b jb pb xb mb sb gb n z op L A hn Tw T U Bw B Dw D) (i : Nat) (hi : i < n) (d : ByteArray) (c : Nat) (hU : U i = some (d, c)) : Calls Tryz.prog 17 #[.pointer (some ⟨sb, 0, none⟩), .string d] w fun e w' => e = .returned (.int .i64 (c : Int)) ∧ CSt w0 w' b jb pb xb mb sb gb n z op L A hn Tw T U Bw B Dw D := by
  have h' := h
  obtain ⟨S, eb, bm, Mw, Mn, h1, _⟩ := h
  refine (cCount_hit h1 i hi d c hU).mono ?_
  rintro e w' ⟨rfl, hb⟩
  exact ⟨rfl, h'.below hb⟩
theorem CSt.saveN {w0 w : World} {b jb pb xb mb sb gb n z : Nat} {L : List ByteArray} {A : List (Nat × Nat)} {hn : Nat} {Tw T : Nat → En} {Bw B : Nat → Bool} {Dw D : Nat → ByteArray} {e0 e1 e2 : Addr} (h : CSt w0 w b jb pb xb mb sb gb n z true L A hn Tw T T Bw B Dw D) (hz : z ≤ 8) (hK : KTab w0) (hs : Snt w0 e0 e1 e2) (t d : ByteArray) (hd : dgB t = d) (ht : t.size = 256) (p : Nat) (hl : Lea B n p) (hT : ∀ j c, T j ≠ some (d, c)) : Calls Tryz.prog 12 #[.pointer (some ⟨sb, 0, none⟩), .string t] w fun e w' => e = .returned (.tuple #[.string d, .bool true, .int .i64 0]) ∧ CSt w0 w' b jb pb xb mb sb gb n (z + 1) true L A hn Tw (upd T p (some (d, 1))) (upd T p (some (d, 1))) Bw (flp B p) Dw (fun i => if i = p then t else D i) := by
  subst hd
  exact h.save_new hz hK hs t ht p hl hT
theorem CSt.saveM {w0 w : World} {b jb pb xb mb sb gb n z : Nat} {L : List ByteArray} {A : List (Nat × Nat)} {hn : Nat} {Tw T : Nat → En} {Bw B : Nat → Bool} {Dw D : Nat → ByteArray} {e0 e1 e2 : Addr} (h : CSt w0 w b jb pb xb mb sb gb n z true L A hn Tw T T Bw B Dw D) (hK : KTab w0) (hs : Snt w0 e0 e1 e2) (t d : ByteArray) (hd : dgB t = d) (ht : t.size = 256) (i : Nat) (hi : i < n) (hT : T i = some (d, 65535)) (hD : D i = t) : Calls Tryz.prog 12 #[.pointer (some ⟨sb, 0, none⟩), .string t] w fun e w' => e = .returned (.tuple #[.string ⟨#[]⟩, .bool false, .int .i64 93]) ∧ CSt w0 w' b jb pb xb mb sb gb n z true L A hn Tw T T Bw B Dw D := by
  subst hd
  exact h.save_max hK hs t ht i hi hT hD
end Go.Proofs.YtdpnbemagiekoaaGreatDoor

namespace Go.Proofs.YtdpnbemagiekoaaGreatDoor
open Go.RowKit Go.Maps Go.Sort Go.Shelf
theorem popenC {w0 w : World} {b : Nat} {v : DV} {L : List ByteArray} {A : List (Nat × Nat)} (h : Dk w w0.heap.size b v (rs L A)) (h0 : Below w0.heap.size w0 w) (hg : ETy w) (hS : Sane (rs L A)) (n0 : Nat) (hn0 : n0 < 4294967296) (hL : L.length = 128) (hz : ∀ t ∈ L, t.size = 256) (hh : L.getD 1 ByteArray.empty = headB n0 []) (ha : A.length ≤ 10000000) :
    Calls Tryz.prog 71 #[.pointer (some ⟨b, 0, none⟩), .int .i64 4] w fun e w' => ∃ jb pb S, e = .returned (.tuple #[.pointer (some ⟨pb, 0, none⟩), .int .i64 0]) ∧ PK w0 w' b jb pb S (fun _ => False) ∧ Seen S L A n0 L L ∧ S.op = false ∧ S.tx = [] ∧ S.keep = 4 := by
  have hO := open_clear h hg h0.size hS n0 hn0 (by omega) hh ha
  refine (popen_any w b 4 (by decide) (fun jp ag er w1 => er = 0 ∧ ∃ jb, jp = some ⟨jb, 0, none⟩ ∧ JK w0 w1 b jb (rs L A) ((n0 + 1) % 4294967296) false (fun _ => False)) (hO.mono (fun e w1 q => by
    obtain ⟨jb, rfl, hJ⟩ := q
    exact ⟨_, _, _, rfl, rfl, jb, rfl, JI.jk (JNew.ji h h0 hS hJ)⟩))).mono ?_
  rintro e w' ⟨jp, ag, er, w1, ⟨rfl, jb, rfl, hJ⟩, q | ⟨_, pb, bw, bv, rfl, hP⟩⟩
  · exact absurd rfl q.1
  · exact ⟨jb, pb, restP L A ((n0 + 1) % 4294967296) 4, rfl, POk.pk hJ (by decide) hP, ⟨⟨rfl, rfl, rfl, rfl⟩, hL, hz, hh, hn0, fun k _ _ => rfl, hL, hL, fun k _ _ => rfl, fun _ => rfl, fun p hp => by cases hp⟩, rfl, rfl, rfl⟩
set_option maxRecDepth 100000 in
set_option maxHeartbeats 2000000 in
theorem copen_any (pb mb xb : Nat) (w : World) : Calls Tryz.prog 74 #[.pointer (some ⟨pb, 0, none⟩), .pointer (some ⟨mb, 0, none⟩), .pointer (some ⟨xb, 0, none⟩), .int .i64 30] w fun e w' => e = .returned (.pointer (some ⟨w.heap.size, 0, none⟩)) ∧ w' = w.alloc (.cells (Scs pb mb xb) 125) := by
  go_enter Tryz.func74, Tryz.ntmps74
  go_wp2
  go_ret
  exact ⟨rfl, rfl⟩
set_option maxRecDepth 100000 in
set_option maxHeartbeats 2000000 in
theorem parts9_any {w0 w : World} {b : Nat} {v : DV} {L : List ByteArray} {A : List (Nat × Nat)} {T : Nat → En} {B : Nat → Bool} {n : Nat} (h : Dk w w0.heap.size b v (rs L A)) (h0 : Below w0.heap.size w0 w) (hg : ETy w0) (hS : Sane (rs L A)) (n0 : Nat) (hn0 : n0 < 4294967296) (hL : L.length = 128) (hz : ∀ t ∈ L, t.size = 256) (hh : L.getD 1 ByteArray.empty = headB n0 []) (ha : A.length ≤ 10000000) (hi : IS L 20 n T) (hT : TOk n T) (hm : MS L 19 n B) (hn1 : 1 ≤ n) (hn2 : n ≤ 24) :
    Calls Tryz.prog 28 #[.pointer (some ⟨b, 0, none⟩), .int .i64 (n : Int)] w fun e w' => ∃ jb pb xb mb sb gb, e = .returned (.pointer (some ⟨gb, 0, none⟩)) ∧ CSt w0 w' b jb pb xb mb sb gb n 0 false L A n0 T T T B B (fun i => L.getD (30 + i) ByteArray.empty) (fun i => L.getD (30 + i) ByteArray.empty) := by
  have HO := hide (popenC h h0 (hg.below h0 hg.lt) hS n0 hn0 hL hz hh ha)
  have HQ := hide (And.intro hg (And.intro hi (And.intro hT (And.intro hm (And.intro hn1 hn2)))))
  clear h h0 hg hS hn0 hL hz hh ha hi hT hm hn1 hn2
  go_enter Tryz.func28, Tryz.ntmps28
  go_wp2_with fail
  refine (unhide HO).mono ?_
  rintro e x1 ⟨jb, pb, S, rfl, K, hs, ho, ht, hk⟩
  obtain ⟨hg, hi, hT, hm, hn1, hn2⟩ := unhide HQ
  have HM := hide (mopen_ok K hg hs hm (by decide) (by unfold pgs; omega) hn1 (by omega))
  simp only [Int.cast_ofNat_Int] at HM
  have X1 := hide (And.intro ho (And.intro ht hk))
  clear K hs ho ht hk hg hi hT hm hn1 hn2 HO
  go_wp2_with fail
  refine (unhide HM).mono ?_
  rintro e x2 ⟨mb, rfl, hlo, S2, G2, o2, t2, O2⟩
  obtain ⟨hg, hi, hT, hm, hn1, hn2⟩ := unhide HQ
  have HI := hide (iopen_ok G2.pk hg G2.seen hi hT (by decide) (by unfold ipgs; omega) hn1 (by omega))
  simp only [Int.cast_ofNat_Int] at HI
  have X2 := hide (And.intro G2 (And.intro o2 t2))
  clear hlo G2 o2 t2 O2 hg hi hT hm hn1 hn2 HM
  go_wp2_with fail
  refine (unhide HI).mono ?_
  rintro e x3 ⟨xb, rfl, _, S3, eb, bm, G3, o3, t3, O3⟩
  have HC := hide (copen_any pb mb xb x3)
  have X3 := hide (And.intro G3 (And.intro o3 (And.intro t3 O3)))
  clear G3 o3 t3 O3 HI
  go_wp2_with fail
  refine (unhide HC).mono ?_
  rintro e x4 ⟨rfl, hx4⟩
  obtain ⟨sb, hsb⟩ : ∃ q, x3.heap.size = q := ⟨_, rfl⟩
  rw [hsb]
  have hb4 : Below x3.heap.size x3 x4 := by rw [hx4]; exact (Below.refl _ x3).alloc (Nat.le_refl _) _
  have B4 : Blk x4 sb (Scs pb mb xb) 125 := by rw [hx4, ← hsb]; exact Blk.new x3 _ _
  obtain ⟨gb, hgb⟩ : ∃ q, x4.heap.size = q := ⟨_, rfl⟩
  obtain ⟨x5, hx5⟩ : ∃ q, x4.alloc (.cells (Pcl b pb mb xb sb) 32) = q := ⟨_, rfl⟩
  have hb5 : Below x4.heap.size x4 x5 := by rw [← hx5]; exact (Below.refl _ x4).alloc (Nat.le_refl _) _
  have B5 : Blk x5 gb (Pcl b pb mb xb sb) 32 := by rw [← hx5, ← hgb]; exact Blk.new x4 _ _
  have C5 : Blk x5 sb (Scs pb mb xb) 125 := B4.below hb5 B4.lt
  have hb35 : Below x3.heap.size x3 x5 := hb4.trans (hb5.mono hb4.size)
  have HF := hide (show CSt w0 x5 b jb pb xb mb sb gb n 0 false L A n0 T T T B B (fun i => L.getD (30 + i) ByteArray.empty) (fun i => L.getD (30 + i) ByteArray.empty) from by
    obtain ⟨G3, o3, t3, O3⟩ := unhide X3
    obtain ⟨G2, o2, t2⟩ := unhide X2
    obtain ⟨ho, ht, hk⟩ := unhide X1
    obtain ⟨hg, hi, hT, hm, hn1, hn2⟩ := unhide HQ
    have hl5 := B5.lt
    have hl4 := C5.lt
    exact ⟨S3, eb, bm, L, L, ⟨G3.more (Z := Yc mb sb gb) hb35 (fun x q => by
        rcases q with q | q | q
        · exact .inl (.inr q)
        · exact .inr (by rw [q]; exact ⟨by omega, hl4⟩)
        · exact .inr (by rw [q]; exact ⟨by have := hb4.size; omega, hl5⟩)), (G2.mp.only O3 (fun q => q (.inr rfl))).below hb35, hm, .inl rfl, .inr (.inl rfl), C5, hn2⟩,
      ⟨o3.trans (o2.trans ho), t3.2.trans (t2.2.trans hk), [], Nat.le_refl _, fun p hp => by rw [t3.1, t2.1, ht] at hp; cases hp⟩, ⟨hi, hT, hm⟩, ⟨fun _ _ => rfl, fun _ _ => rfl⟩, B5⟩)
  have hx5' : x4.alloc (.cells #[.pointer (some ⟨b, 0, none⟩), .pointer (some ⟨pb, 0, none⟩), .pointer (some ⟨mb, 0, none⟩), .pointer (some ⟨xb, 0, none⟩), .pointer (some ⟨sb, 0, none⟩)] 32) = x5 := hx5
  clear hb4 B4 hb5 B5 C5 hb35 X1 X2 X3 HQ HC hx4 hx5 hsb
  go_wp2
  go_ret
  exact ⟨jb, pb, xb, mb, sb, gb, rfl, unhide HF⟩
end Go.Proofs.YtdpnbemagiekoaaGreatDoor
