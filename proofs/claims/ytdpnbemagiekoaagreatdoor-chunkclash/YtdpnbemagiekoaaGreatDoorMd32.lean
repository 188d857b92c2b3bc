import Derived.Test.YtdpnbemagiekoaaGreatDoorMd31
import Derived.Test.YtdpnbemagiekoaaGreatDoorMd17
import Derived.Test.YtdpnbemagiekoaaGreatDoorMd30
import Derived.Test.YtdpnbemagiekoaaGreatDoorMd15
namespace Go.Proofs.YtdpnbemagiekoaaGreatDoor
open Go.RowKit Go.Maps Go.Sort Go.Shelf
/-- The cells of the law's parts. -/
def Pcl (b pb mb xb sb : Nat) : Array Value := #[.pointer (some ⟨b, 0, none⟩), .pointer (some ⟨pb, 0, none⟩), .pointer (some ⟨mb, 0, none⟩), .pointer (some ⟨xb, 0, none⟩), .pointer (some ⟨sb, 0, none⟩)]
def Yc (mb sb gb : Nat) : Nat → Prop := fun x => x = mb ∨ x = sb ∨ x = gb
/-- The transaction has written the pages of map and index, and few data sectors. -/
def TxC (S : PS) (z : Nat) : Prop := ∃ Z : List Int, Z.length ≤ z ∧ ∀ p ∈ S.tx, (19 ≤ p.1 ∧ p.1 < 24) ∨ p.1 ∈ Z
theorem TxC.len {S : PS} {z : Nat} (h : TxC S z) (hs : Srt S.tx) : S.tx.length ≤ 5 + z := by
  obtain ⟨Z, h1, h2⟩ := h
  have h3 : (S.tx.map (·.1)).Nodup := List.pairwise_map.2 (hs.imp (fun q => by omega))
  have h4 := nodup_sub (S.tx.map (·.1)) ([19, 20, 21, 22, 23] ++ Z) h3 (fun x hx => by
    obtain ⟨p, hp, rfl⟩ := List.mem_map.1 hx
    rcases h2 p hp with q | q
    · refine List.mem_append.2 (.inl ?_)
      have : p.1 = 19 ∨ p.1 = 20 ∨ p.1 = 21 ∨ p.1 = 22 ∨ p.1 = 23 := by omega
      rcases this with e | e | e | e | e <;> rw [e] <;> decide
    · exact List.mem_append.2 (.inr q))
  rw [List.length_map, List.length_append] at h4
  simp only [List.length_cons, List.length_nil] at h4
  omega
theorem TxC.room {S : PS} {z : Nat} (h : TxC S z) (hs : Srt S.tx) (hz : z ≤ 10) (i : Int) : roomB S i = true := by
  have := h.len hs
  unfold roomB
  rw [Bool.or_eq_true]
  exact .inr (decide_eq_true (by omega))
/-- A store between calls, and the law's box of its parts: Tw, Bw, Dw were committed, T, B, D are what the transaction sees, U what the index's memory knows. -/
def CSt (w0 w : World) (b jb pb xb mb sb gb n z : Nat) (op : Bool) (L : List ByteArray) (A : List (Nat × Nat)) (hn : Nat) (Tw T U : Nat → En) (Bw B : Nat → Bool) (Dw D : Nat → ByteArray) : Prop :=
  ∃ S eb bm Mw Mn, CG w0 w b jb pb xb eb bm mb sb (Yc mb sb gb) n S L A hn Mw Mn T U B ∧ (S.op = op ∧ S.keep = 4 ∧ TxC S z) ∧ (IS Mw 20 n Tw ∧ TOk n Tw ∧ MS Mw 19 n Bw) ∧ ((∀ i, i < n → Mw.getD (30 + i) ByteArray.empty = Dw i) ∧ (∀ i, i < n → Mn.getD (30 + i) ByteArray.empty = D i)) ∧ Blk w gb (Pcl b pb mb xb sb) 32
theorem CSt.c {w0 w : World} {b jb pb xb mb sb gb n z : Nat} {op : Bool} {L : List ByteArray} {A : List (Nat × Nat)} {hn : Nat} {Tw T U : Nat → En} {Bw B : Nat → Bool} {Dw D : Nat → ByteArray} (h : CSt w0 w b jb pb xb mb sb gb n z op L A hn Tw T U Bw B Dw D) : w.cell? ⟨gb, 0, none⟩ = some (.pointer (some ⟨b, 0, none⟩)) ∧ w.cell? ⟨gb, 1, none⟩ = some (.pointer (some ⟨pb, 0, none⟩)) ∧ w.cell? ⟨gb, 2, none⟩ = some (.pointer (some ⟨mb, 0, none⟩)) ∧ w.cell? ⟨gb, 3, none⟩ = some (.pointer (some ⟨xb, 0, none⟩)) ∧ w.cell? ⟨gb, 4, none⟩ = some (.pointer (some ⟨sb, 0, none⟩)) := by
  obtain ⟨S, eb, bm, Mw, Mn, h1, h2, h3, h4, h5⟩ := h
  exact ⟨by rw [h5.cell]; rfl, by rw [h5.cell]; rfl, by rw [h5.cell]; rfl, by rw [h5.cell]; rfl, by rw [h5.cell]; rfl⟩
theorem CSt.bel {w0 w : World} {b jb pb xb mb sb gb n z : Nat} {op : Bool} {L : List ByteArray} {A : List (Nat × Nat)} {hn : Nat} {Tw T U : Nat → En} {Bw B : Nat → Bool} {Dw D : Nat → ByteArray} (h : CSt w0 w b jb pb xb mb sb gb n z op L A hn Tw T U Bw B Dw D) : Below w0.heap.size w0 w := by
  obtain ⟨S, eb, bm, Mw, Mn, h1, h2, h3, h4, h5⟩ := h
  exact h1.bel
theorem CSt.below {w0 w : World} {b jb pb xb mb sb gb n z : Nat} {op : Bool} {L : List ByteArray} {A : List (Nat × Nat)} {hn : Nat} {Tw T U : Nat → En} {Bw B : Nat → Bool} {Dw D : Nat → ByteArray} (h : CSt w0 w b jb pb xb mb sb gb n z op L A hn Tw T U Bw B Dw D) {w' : World} (hb : Below w.heap.size w w') : CSt w0 w' b jb pb xb mb sb gb n z op L A hn Tw T U Bw B Dw D := by
  obtain ⟨S, eb, bm, Mw, Mn, h1, h2, h3, h4, h5⟩ := h
  exact ⟨S, eb, bm, Mw, Mn, h1.below hb, h2, h3, h4, h5.below hb h5.lt⟩
theorem CSt.begin {w0 w : World} {b jb pb xb mb sb gb n z : Nat} {L : List ByteArray} {A : List (Nat × Nat)} {hn : Nat} {Tw T U : Nat → En} {Bw B : Nat → Bool} {Dw D : Nat → ByteArray} (h : CSt w0 w b jb pb xb mb sb gb n z false L A hn Tw T U Bw B Dw D) : Calls Tryz.prog 11 #[.pointer (some ⟨pb, 0, none⟩)] w fun e w' => e = .returned (.int .i64 0) ∧ CSt w0 w' b jb pb xb mb sb gb n z true L A hn Tw T U Bw B Dw D := by
  obtain ⟨S, eb, bm, Mw, Mn, h1, ⟨h2, h2k, h2t⟩, h3, h4, h5⟩ := h
  obtain ⟨s1, s2, s3, s4⟩ := h1.ig.seen.begin
  rw [h2] at s1
  have hc := pbegin_any h1.ig.pk
  rw [show beginE S = 0 from s1] at hc
  refine hc.mono ?_
  rintro e w' ⟨rfl, K, hO⟩
  exact ⟨rfl, _, eb, bm, Mw, Mn, h1.next K hO s2 h1.ig.is h1.ig.ok h1.ms, ⟨s3, by rw [← h2k]; unfold beginS; split <;> (try split) <;> rfl, by unfold TxC; rw [s4]; exact h2t⟩, h3, h4, h5.only hO (fun q => q (.inl (.inr (.inr rfl))))⟩
theorem CSt.commit {w0 w : World} {b jb pb xb mb sb gb n z : Nat} {L : List ByteArray} {A : List (Nat × Nat)} {hn : Nat} {Tw T U : Nat → En} {Bw B : Nat → Bool} {Dw D : Nat → ByteArray} (h : CSt w0 w b jb pb xb mb sb gb n z true L A hn Tw T U Bw B Dw D) (ha : A.length ≤ 1000000) : Calls Tryz.prog 16 #[.pointer (some ⟨pb, 0, none⟩)] w fun e w' => e = .returned (.int .i64 0) ∧ ∃ L' A', A'.length ≤ A.length + 38 ∧ CSt w0 w' b jb pb xb mb sb gb n 0 false L' A' ((hn + 1) % 4294967296) T T U B B D D := by
  obtain ⟨S, eb, bm, Mw, Mn, h1, ⟨h2, h2k, h2t⟩, h3, h4, h5⟩ := h
  obtain ⟨s1, s2, s3⟩ := h1.ig.seen.commit h2 h1.bg.srt h1.bg.t16 h1.bg.tok
  have hc := pcommit_any h1.ig.pk (by rw [h1.ig.seen.rst.nx]; exact Nat.mod_lt _ (by decide)) (by rw [h1.ig.seen.rst.s]; exact Nat.zero_le _) (by rw [h1.ig.seen.rst.s]; show A.length ≤ _; omega)
  rw [s1] at hc
  refine hc.mono ?_
  rintro e w' ⟨rfl, K, hO⟩
  refine ⟨rfl, _, _, ?_, _, eb, bm, Mn, Mn, h1.next K hO s2 h1.ig.is h1.ig.ok h1.ms, ⟨s3, ?_, [], Nat.le_refl _, ?_⟩, ⟨h1.ig.is, h1.ig.ok, h1.ms⟩, ⟨h4.2, h4.2⟩, h5.only hO (fun q => q (.inl (.inr (.inr rfl))))⟩
  · rw [List.length_append, comA_len _ h1.bg.t16]
    exact Nat.le_refl _
  · rw [← h2k]
    exact (commit_rest h1.ig.seen.rst h2 h1.ig.seen.len (tx_good h1.bg.srt h1.bg.t16 h1.bg.tok)).2.2.2.2.1
  · rw [s2.cl s3]
    intro p hp
    cases hp
theorem CSt.abort {w0 w : World} {b jb pb xb mb sb gb n z : Nat} {L : List ByteArray} {A : List (Nat × Nat)} {hn : Nat} {Tw T U : Nat → En} {Bw B : Nat → Bool} {Dw D : Nat → ByteArray} (h : CSt w0 w b jb pb xb mb sb gb n z true L A hn Tw T U Bw B Dw D) : Calls Tryz.prog 18 #[.pointer (some ⟨pb, 0, none⟩)] w fun e w' => e = .returned (.int .i64 0) ∧ CSt w0 w' b jb pb xb mb sb gb n 0 false L A hn Tw Tw U Bw Bw Dw Dw := by
  obtain ⟨S, eb, bm, Mw, Mn, h1, ⟨h2, h2k, h2t⟩, h3, h4, h5⟩ := h
  have hc := pabort_any h1.ig.pk
  rw [show abortE S = 0 from by simp [abortE, h2], show abortS S = endS S from by simp [abortS, h2]] at hc
  refine hc.mono ?_
  rintro e w' ⟨rfl, K, hO⟩
  exact ⟨rfl, _, eb, bm, Mw, Mw, h1.next K hO (h1.ig.seen.back (endS S) (end_rest h1.ig.seen.rst) rfl h1.ig.seen.hok) h3.1 h3.2.1 h3.2.2, ⟨rfl, h2k, [], Nat.le_refl _, fun p hp => (by cases hp)⟩, h3, ⟨h4.1, h4.1⟩, h5.only hO (fun q => q (.inl (.inr (.inr rfl))))⟩
theorem CSt.reload {w0 w : World} {b jb pb xb mb sb gb n z : Nat} {op : Bool} {L : List ByteArray} {A : List (Nat × Nat)} {hn : Nat} {Tw T U : Nat → En} {Bw B : Nat → Bool} {Dw D : Nat → ByteArray} (h : CSt w0 w b jb pb xb mb sb gb n z op L A hn Tw T U Bw B Dw D) : Calls Tryz.prog 19 #[.pointer (some ⟨xb, 0, none⟩)] w fun e w' => e = .returned (.int .i64 0) ∧ CSt w0 w' b jb pb xb mb sb gb n z op L A hn Tw T T Bw B Dw D := by
  obtain ⟨S, eb, bm, Mw, Mn, h1, ⟨h2, h2k, h2t⟩, h3, h4, h5⟩ := h
  refine (ireload_any h1.ig).mono ?_
  rintro e w' ⟨rfl, S', eb', bm', k1, k2, k3, k4⟩
  exact ⟨rfl, S', eb', bm', Mw, Mn, h1.turn k1 k4 h1.ms, ⟨k2.trans h2, k3.2.trans h2k, by unfold TxC; rw [k3.1]; exact h2t⟩, h3, h4, h5.only k4 (fun q => q (.inr (.inr rfl)))⟩
theorem CSt.find {w0 w : World} {b jb pb xb mb sb gb n z : Nat} {op : Bool} {L : List ByteArray} {A : List (Nat × Nat)} {hn : Nat} {Tw T U : Nat → En} {Bw B : Nat → Bool} {Dw D : Nat → ByteArray} (h : CSt w0 w b jb pb xb mb sb gb n z op L A hn Tw T U Bw B Dw D) (i : Nat) (d : ByteArray) (c : Nat) (hU : U i = some (d, c)) : Calls Tryz.prog 13 #[.pointer (some ⟨xb, 0, none⟩), .string d] w fun e w' => e = .returned (.tuple #[.int .i64 (i : Int), .bool true]) ∧ CSt w0 w' b jb pb xb mb sb gb n z op L A hn Tw T U Bw B Dw D := by
  have h' := h
  obtain ⟨S, eb, bm, Mw, Mn, h1, _⟩ := h
  refine (h1.find i d c hU).mono ?_
  rintro e w' ⟨rfl, hb⟩
  exact ⟨rfl, h'.below hb⟩
/-- A change of pages alone. -/
theorem CSt.chg {w0 w : World} {b jb pb xb mb sb gb n z : Nat} {L : List ByteArray} {A : List (Nat × Nat)} {hn : Nat} {Tw T' U' : Nat → En} {Bw B' : Nat → Bool} {Dw D : Nat → ByteArray} {S : PS} {eb bm : Nat} {Mw Mn : List ByteArray} {Q : List Nat} {R : List ByteArray → Prop} {w' : World} (h2k : S.keep = 4) (h2t : TxC S z) (h3 : IS Mw 20 n Tw ∧ TOk n Tw ∧ MS Mw 19 n Bw) (h4 : (∀ i, i < n → Mw.getD (30 + i) ByteArray.empty = Dw i) ∧ (∀ i, i < n → Mn.getD (30 + i) ByteArray.empty = D i)) (h5 : Blk w gb (Pcl b pb mb xb sb) 32) (k : CChg w0 w b jb pb xb eb bm mb sb (Yc mb sb gb) n S L A hn Mw Mn Q T' U' B' R w') (hQ : ∀ q ∈ Q, 19 ≤ q ∧ q < 24) : CSt w0 w' b jb pb xb mb sb gb n z true L A hn Tw T' U' Bw B' Dw D := by
  obtain ⟨S', Mn', k1, k2, k3, k4, k5, k6, k7⟩ := k
  have hn24 := k1.n24
  refine ⟨S', eb, bm, Mw, Mn', k1, ⟨k2, k3.trans h2k, ?_⟩, h3, ⟨h4.1, fun i hi => ?_⟩, h5.only k7 (fun q => q (.inr (.inr rfl)))⟩
  · obtain ⟨Z, z1, z2⟩ := h2t
    refine ⟨Z, z1, fun p hp => ?_⟩
    rcases k4 p hp with q | ⟨q, hq, e⟩
    · exact z2 p q
    · have := hQ q hq
      exact .inl (by omega)
  · rw [k5 (30 + i) (by omega) (by omega) (fun q => by have := hQ _ q; omega)]
    exact h4.2 i hi
/-- A change that writes a data sector. -/
theorem CSt.chg1 {w0 w : World} {b jb pb xb mb sb gb n z : Nat} {L : List ByteArray} {A : List (Nat × Nat)} {hn : Nat} {Tw T' U' : Nat → En} {Bw B' : Nat → Bool} {Dw D : Nat → ByteArray} {S : PS} {eb bm : Nat} {Mw Mn : List ByteArray} {Q : List Nat} {R : List ByteArray → Prop} {w' : World} (h2k : S.keep = 4) (h2t : TxC S z) (h3 : IS Mw 20 n Tw ∧ TOk n Tw ∧ MS Mw 19 n Bw) (h4 : (∀ i, i < n → Mw.getD (30 + i) ByteArray.empty = Dw i) ∧ (∀ i, i < n → Mn.getD (30 + i) ByteArray.empty = D i)) (h5 : Blk w gb (Pcl b pb mb xb sb) 32) (k : CChg w0 w b jb pb xb eb bm mb sb (Yc mb sb gb) n S L A hn Mw Mn Q T' U' B' R w') (p : Nat) (t : ByteArray) (hQ : ∀ q ∈ Q, (19 ≤ q ∧ q < 24) ∨ q = 30 + p) (hR : ∀ M, R M → M.getD (30 + p) ByteArray.empty = t) : CSt w0 w' b jb pb xb mb sb gb n (z + 1) true L A hn Tw T' U' Bw B' Dw (fun i => if i = p then t else D i) := by
  obtain ⟨S', Mn', k1, k2, k3, k4, k5, k6, k7⟩ := k
  have hn24 := k1.n24
  refine ⟨S', eb, bm, Mw, Mn', k1, ⟨k2, k3.trans h2k, ?_⟩, h3, ⟨h4.1, fun i hi => ?_⟩, h5.only k7 (fun q => q (.inr (.inr rfl)))⟩
  · obtain ⟨Z, z1, z2⟩ := h2t
    refine ⟨((30 + p : Nat) : Int) :: Z, by simp only [List.length_cons]; omega, fun x hx => ?_⟩
    rcases k4 x hx with q | ⟨q, hq, e⟩
    · exact (z2 x q).imp_right (fun r => List.mem_cons.2 (.inr r))
    · rcases hQ q hq with r | r
      · exact .inl (by omega)
      · exact .inr (List.mem_cons.2 (.inl (by rw [e, r])))
  · show Mn'.getD (30 + i) ByteArray.empty = if i = p then t else D i
    by_cases e : i = p
    · subst e
      rw [if_pos rfl]
      exact hR _ k6
    · rw [if_neg e, k5 (30 + i) (by omega) (by omega) (fun q => by have := hQ _ q; omega)]
      exact h4.2 i hi
theorem CSt.kept {w0 w : World} {b jb pb xb mb sb gb n z : Nat} {op : Bool} {L : List ByteArray} {A : List (Nat × Nat)} {hn : Nat} {Tw T U : Nat → En} {Bw B : Nat → Bool} {Dw D : Nat → ByteArray} {S : PS} {eb bm : Nat} {Mw Mn : List ByteArray} {w' : World} (h2 : S.op = op) (h2k : S.keep = 4) (h2t : TxC S z) (h3 : IS Mw 20 n Tw ∧ TOk n Tw ∧ MS Mw 19 n Bw) (h4 : (∀ i, i < n → Mw.getD (30 + i) ByteArray.empty = Dw i) ∧ (∀ i, i < n → Mn.getD (30 + i) ByteArray.empty = D i)) (h5 : Blk w gb (Pcl b pb mb xb sb) 32) (k : CKept w0 w b jb pb xb eb bm mb sb (Yc mb sb gb) n S L A hn Mw Mn T U B w') : CSt w0 w' b jb pb xb mb sb gb n z op L A hn Tw T U Bw B Dw D := by
  obtain ⟨S', k1, k2, k3, k4⟩ := k
  exact ⟨S', eb, bm, Mw, Mn, k1, ⟨k2.trans h2, k3.2.trans h2k, by unfold TxC; rw [k3.1]; exact h2t⟩, h3, h4, h5.only k4 (fun q => q (.inl (.inr (.inr rfl))))⟩
theorem CSt.save_new {w0 w : World} {b jb pb xb mb sb gb n z : Nat} {L : List ByteArray} {A : List (Nat × Nat)} {hn : Nat} {Tw T : Nat → En} {Bw B : Nat → Bool} {Dw D : Nat → ByteArray} {e0 e1 e2 : Addr} (h : CSt w0 w b jb pb xb mb sb gb n z true L A hn Tw T T Bw B Dw D) (hz : z ≤ 8) (hK : KTab w0) (hs : Snt w0 e0 e1 e2) (t : ByteArray) (ht : t.size = 256) (p : Nat) (hl : Lea B n p) (hT : ∀ j c, T j ≠ some (dgB t, c)) : Calls Tryz.prog 12 #[.pointer (some ⟨sb, 0, none⟩), .string t] w fun e w' => e = .returned (.tuple #[.string (dgB t), .bool true, .int .i64 0]) ∧ CSt w0 w' b jb pb xb mb sb gb n (z + 1) true L A hn Tw (upd T p (some (dgB t, 1))) (upd T p (some (dgB t, 1))) Bw (flp B p) Dw (fun i => if i = p then t else D i) := by
  obtain ⟨S, eb, bm, Mw, Mn, h1, ⟨h2, h2k, h2t⟩, h3, h4, h5⟩ := h
  have hp := hl.1
  have hn24 := h1.n24
  have hlen := h2t.len h1.srt
  refine (cSave_new h1 h2 hK hs t ht p hl hT (by omega)).mono ?_
  rintro e w' ⟨rfl, k⟩
  exact ⟨rfl, CSt.chg1 h2k h2t h3 h4 h5 k p t (fun q hq => by simp only [List.mem_cons, List.not_mem_nil, or_false] at hq; omega) (fun M hM => hM)⟩
theorem CSt.save_clash {w0 w : World} {b jb pb xb mb sb gb n z : Nat} {L : List ByteArray} {A : List (Nat × Nat)} {hn : Nat} {Tw T : Nat → En} {Bw B : Nat → Bool} {Dw D : Nat → ByteArray} {e0 e1 e2 : Addr} (h : CSt w0 w b jb pb xb mb sb gb n z true L A hn Tw T T Bw B Dw D) (hK : KTab w0) (hs : Snt w0 e0 e1 e2) (t : ByteArray) (ht : t.size = 256) (i : Nat) (hi : i < n) (c : Nat) (hT : T i = some (dgB t, c)) (hD : D i ≠ t) : Calls Tryz.prog 12 #[.pointer (some ⟨sb, 0, none⟩), .string t] w fun e w' => e = .returned (.tuple #[.string ⟨#[]⟩, .bool false, .int .i64 94]) ∧ CSt w0 w' b jb pb xb mb sb gb n z true L A hn Tw T T Bw B Dw D := by
  obtain ⟨S, eb, bm, Mw, Mn, h1, ⟨h2, h2k, h2t⟩, h3, h4, h5⟩ := h
  refine (cSave_clash h1 h2 hK hs t ht i hi c hT (D i) (h4.2 i hi) hD).mono ?_
  rintro e w' ⟨rfl, k⟩
  exact ⟨rfl, CSt.kept h2 h2k h2t h3 h4 h5 k⟩
theorem CSt.saveN {w0 w : World} {b jb pb xb mb sb gb n z : Nat} {L : List ByteArray} {A : List (Nat × Nat)} {hn : Nat} {Tw T : Nat → En} {Bw B : Nat → Bool} {Dw D : Nat → ByteArray} {e0 e1 e2 : Addr} (h : CSt w0 w b jb pb xb mb sb gb n z true L A hn Tw T T Bw B Dw D) (hz : z ≤ 8) (hK : KTab w0) (hs : Snt w0 e0 e1 e2) (t d : ByteArray) (hd : dgB t = d) (ht : t.size = 256) (p : Nat) (hl : Lea B n p) (hT : ∀ j c, T j ≠ some (d, c)) : Calls Tryz.prog 12 #[.pointer (some ⟨sb, 0, none⟩), .string t] w fun e w' => e = .returned (.tuple #[.string d, .bool true, .int .i64 0]) ∧ CSt w0 w' b jb pb xb mb sb gb n (z + 1) true L A hn Tw (upd T p (some (d, 1))) (upd T p (some (d, 1))) Bw (flp B p) Dw (fun i => if i = p then t else D i) := by
  subst hd
  exact h.save_new hz hK hs t ht p hl hT
theorem CSt.saveC {w0 w : World} {b jb pb xb mb sb gb n z : Nat} {L : List ByteArray} {A : List (Nat × Nat)} {hn : Nat} {Tw T : Nat → En} {Bw B : Nat → Bool} {Dw D : Nat → ByteArray} {e0 e1 e2 : Addr} (h : CSt w0 w b jb pb xb mb sb gb n z true L A hn Tw T T Bw B Dw D) (hK : KTab w0) (hs : Snt w0 e0 e1 e2) (t d : ByteArray) (hd : dgB t = d) (ht : t.size = 256) (i : Nat) (hi : i < n) (c : Nat) (hT : T i = some (d, c)) (hD : D i ≠ t) : Calls Tryz.prog 12 #[.pointer (some ⟨sb, 0, none⟩), .string t] w fun e w' => e = .returned (.tuple #[.string ⟨#[]⟩, .bool false, .int .i64 94]) ∧ CSt w0 w' b jb pb xb mb sb gb n z true L A hn Tw T T Bw B Dw D := by
  subst hd
  exact h.save_clash hK hs t ht i hi c hT hD
end Go.Proofs.YtdpnbemagiekoaaGreatDoor

namespace Go.Proofs.YtdpnbemagiekoaaGreatDoor
open Go.RowKit Go.Maps Go.Sort Go.Shelf
theorem popenC {w0 w : World} {b : Nat} {v : DV} {L : List ByteArray} {A : List (Nat × Nat)} (h : Dk w w0.heap.size b v (rs L A)) (h0 : Below w0.heap.size w0 w) (hg : ETy w) (hS : Sane (rs L A)) (n0 : Nat) (hn0 : n0 < 4294967296) (hL : L.length = 128) (hz : ∀ t ∈ L, t.size = 256) (hh : L.getD 1 ByteArray.empty = headB n0 []) (ha : A.length ≤ 10000000) :
    Calls Tryz.prog 71 #[.pointer (some ⟨b, 0, none⟩), .int .i64 4] w fun e w' => ∃ jb pb S, e = .returned (.tuple #[.pointer (some ⟨pb, 0, none⟩), .int .i64 0]) ∧ PK w0 w' b jb pb S (fun _ => False) ∧ Seen S L A n0 L L ∧ S.op = false ∧ S.tx = [] ∧ S.keep = 4 := by
  have hO := open_clear h hg h0.size hS n0 hn0 (by omega) hh ha
  refine (popen_any w b 4 (by decide) (fun jp ag er w1 => er = 0 ∧ ∃ jb, jp = some ⟨jb, 0, none⟩ ∧ JK w0 w1 b jb (rs L A) ((n0 + 1) % 4294967296) false (fun _ => False)) (hO.mono (fun e w1 q => by
    obtain ⟨jb, rfl, hJ⟩ := q
    exact ⟨_, _, _, rfl, rfl, jb, rfl, JI.jk (JNew.ji h h0 hS hJ)⟩))).mono ?_
  rintro e w' ⟨jp, ag, er, w1, ⟨rfl, jb, rfl, hJ⟩, q | ⟨_, pb, bw, bv, rfl, hP⟩⟩
  · exact absurd rfl q.1
  · exact ⟨jb, pb, restP L A ((n0 + 1) % 4294967296) 4, rfl, POk.pk hJ (by decide) hP, ⟨⟨rfl, rfl, rfl, rfl⟩, hL, hz, hh, hn0, fun k _ _ => rfl, hL, hL, fun k _ _ => rfl, fun _ => rfl, fun p hp => by cases hp⟩, rfl, rfl, rfl⟩
set_option maxRecDepth 100000 in
set_option maxHeartbeats 2000000 in
theorem copen_any (pb mb xb : Nat) (w : World) : Calls Tryz.prog 74 #[.pointer (some ⟨pb, 0, none⟩), .pointer (some ⟨mb, 0, none⟩), .pointer (some ⟨xb, 0, none⟩), .int .i64 30] w fun e w' => e = .returned (.pointer (some ⟨w.heap.size, 0, none⟩)) ∧ w' = w.alloc (.cells (Scs pb mb xb) 125) := by
  go_enter Tryz.func74, Tryz.ntmps74
  go_wp2
  go_ret
  exact ⟨rfl, rfl⟩
set_option maxRecDepth 100000 in
set_option maxHeartbeats 2000000 in
theorem parts9_any {w0 w : World} {b : Nat} {v : DV} {L : List ByteArray} {A : List (Nat × Nat)} {T : Nat → En} {B : Nat → Bool} {n : Nat} (h : Dk w w0.heap.size b v (rs L A)) (h0 : Below w0.heap.size w0 w) (hg : ETy w0) (hS : Sane (rs L A)) (n0 : Nat) (hn0 : n0 < 4294967296) (hL : L.length = 128) (hz : ∀ t ∈ L, t.size = 256) (hh : L.getD 1 ByteArray.empty = headB n0 []) (ha : A.length ≤ 10000000) (hi : IS L 20 n T) (hT : TOk n T) (hm : MS L 19 n B) (hn1 : 1 ≤ n) (hn2 : n ≤ 24) :
    Calls Tryz.prog 28 #[.pointer (some ⟨b, 0, none⟩), .int .i64 (n : Int)] w fun e w' => ∃ jb pb xb mb sb gb, e = .returned (.pointer (some ⟨gb, 0, none⟩)) ∧ CSt w0 w' b jb pb xb mb sb gb n 0 false L A n0 T T T B B (fun i => L.getD (30 + i) ByteArray.empty) (fun i => L.getD (30 + i) ByteArray.empty) := by
  have HO := hide (popenC h h0 (hg.below h0 hg.lt) hS n0 hn0 hL hz hh ha)
  have HQ := hide (And.intro hg (And.intro hi (And.intro hT (And.intro hm (And.intro hn1 hn2)))))
  clear h h0 hg hS hn0 hL hz hh ha hi hT hm hn1 hn2
  go_enter Tryz.func28, Tryz.ntmps28
  go_wp2_with fail
  refine (unhide HO).mono ?_
  rintro e x1 ⟨jb, pb, S, rfl, K, hs, ho, ht, hk⟩
  obtain ⟨hg, hi, hT, hm, hn1, hn2⟩ := unhide HQ
  have HM := hide (mopen_ok K hg hs hm (by decide) (by unfold pgs; omega) hn1 (by omega))
  simp only [Int.cast_ofNat_Int] at HM
  have X1 := hide (And.intro ho (And.intro ht hk))
  clear K hs ho ht hk hg hi hT hm hn1 hn2 HO
  go_wp2_with fail
  refine (unhide HM).mono ?_
  rintro e x2 ⟨mb, rfl, hlo, S2, G2, o2, t2, O2⟩
  obtain ⟨hg, hi, hT, hm, hn1, hn2⟩ := unhide HQ
  have HI := hide (iopen_ok G2.pk hg G2.seen hi hT (by decide) (by unfold ipgs; omega) hn1 (by omega))
  simp only [Int.cast_ofNat_Int] at HI
  have X2 := hide (And.intro G2 (And.intro o2 t2))
  clear hlo G2 o2 t2 O2 hg hi hT hm hn1 hn2 HM
  go_wp2_with fail
  refine (unhide HI).mono ?_
  rintro e x3 ⟨xb, rfl, _, S3, eb, bm, G3, o3, t3, O3⟩
  have HC := hide (copen_any pb mb xb x3)
  have X3 := hide (And.intro G3 (And.intro o3 (And.intro t3 O3)))
  clear G3 o3 t3 O3 HI
  go_wp2_with fail
  refine (unhide HC).mono ?_
  rintro e x4 ⟨rfl, hx4⟩
  obtain ⟨sb, hsb⟩ : ∃ q, x3.heap.size = q := ⟨_, rfl⟩
  rw [hsb]
  have hb4 : Below x3.heap.size x3 x4 := by rw [hx4]; exact (Below.refl _ x3).alloc (Nat.le_refl _) _
  have B4 : Blk x4 sb (Scs pb mb xb) 125 := by rw [hx4, ← hsb]; exact Blk.new x3 _ _
  obtain ⟨gb, hgb⟩ : ∃ q, x4.heap.size = q := ⟨_, rfl⟩
  obtain ⟨x5, hx5⟩ : ∃ q, x4.alloc (.cells (Pcl b pb mb xb sb) 32) = q := ⟨_, rfl⟩
  have hb5 : Below x4.heap.size x4 x5 := by rw [← hx5]; exact (Below.refl _ x4).alloc (Nat.le_refl _) _
  have B5 : Blk x5 gb (Pcl b pb mb xb sb) 32 := by rw [← hx5, ← hgb]; exact Blk.new x4 _ _
  have C5 : Blk x5 sb (Scs pb mb xb) 125 := B4.below hb5 B4.lt
  have hb35 : Below x3.heap.size x3 x5 := hb4.trans (hb5.mono hb4.size)
  have HF := hide (show CSt w0 x5 b jb pb xb mb sb gb n 0 false L A n0 T T T B B (fun i => L.getD (30 + i) ByteArray.empty) (fun i => L.getD (30 + i) ByteArray.empty) from by
    obtain ⟨G3, o3, t3, O3⟩ := unhide X3
    obtain ⟨G2, o2, t2⟩ := unhide X2
    obtain ⟨ho, ht, hk⟩ := unhide X1
    obtain ⟨hg, hi, hT, hm, hn1, hn2⟩ := unhide HQ
    have hl5 := B5.lt
    have hl4 := C5.lt
    exact ⟨S3, eb, bm, L, L, ⟨G3.more (Z := Yc mb sb gb) hb35 (fun x q => by
        rcases q with q | q | q
        · exact .inl (.inr q)
        · exact .inr (by rw [q]; exact ⟨by omega, hl4⟩)
        · exact .inr (by rw [q]; exact ⟨by have := hb4.size; omega, hl5⟩)), (G2.mp.only O3 (fun q => q (.inr rfl))).below hb35, hm, .inl rfl, .inr (.inl rfl), C5, hn2⟩,
      ⟨o3.trans (o2.trans ho), t3.2.trans (t2.2.trans hk), [], Nat.le_refl _, fun p hp => by rw [t3.1, t2.1, ht] at hp; cases hp⟩, ⟨hi, hT, hm⟩, ⟨fun _ _ => rfl, fun _ _ => rfl⟩, B5⟩)
  have hx5' : x4.alloc (.cells #[.pointer (some ⟨b, 0, none⟩), .pointer (some ⟨pb, 0, none⟩), .pointer (some ⟨mb, 0, none⟩), .pointer (some ⟨xb, 0, none⟩), .pointer (some ⟨sb, 0, none⟩)] 32) = x5 := hx5
  clear hb4 B4 hb5 B5 C5 hb35 X1 X2 X3 HQ HC hx4 hx5 hsb
  go_wp2
  go_ret
  exact ⟨jb, pb, xb, mb, sb, gb, rfl, unhide HF⟩
end Go.Proofs.YtdpnbemagiekoaaGreatDoor

namespace Go.Proofs.YtdpnbemagiekoaaGreatDoor
open Go.RowKit Go.Maps Go.Sort Go.Shelf
/-- A disk with a clear journal on which so many sectors were written. -/
def aT (P : List (Nat × ByteArray)) : List (Nat × Nat) := A0 ++ P.map (fun p => (0, p.1))
theorem aT_len (P : List (Nat × ByteArray)) : (aT P).length = 2 + P.length := by rw [aT, List.length_append, List.length_map]; rfl
def layT (P : List (Nat × ByteArray)) : DSt := ⟨L0, layP L0 P, P, aT P, 0, false⟩
theorem layT_write (P : List (Nat × ByteArray)) (j : Nat) (t : ByteArray) (h : j < 128) (ht : t.size = 256) : writeE (layT P) (j : Int) t = 0 ∧ writeS (layT P) (j : Int) t = layT (P ++ [(j, t)]) := by
  obtain ⟨h1, h2⟩ := writeA (s := layT P) ⟨rfl, rfl⟩ j (by show j < L0.length; rw [L0_len]; exact h) _ ht
  refine ⟨h1, ?_⟩
  rw [h2]
  unfold layT aT
  simp only
  rw [layP_app, List.map_append, List.append_assoc]
  rfl
theorem layT_flush (P : List (Nat × ByteArray)) : flushE (layT P) = 0 ∧ flushS (layT P) = rs (layP L0 P) (aT P ++ [(1, 0)]) := by
  obtain ⟨h1, h2⟩ := flushA (s := layT P) ⟨rfl, rfl⟩
  exact ⟨h1, by rw [h2]; rfl⟩
theorem DF.write {w0 w : World} {b : Nat} {s : DSt} {X : Nat → Prop} (h : DF w0 w b s X) (hp : s.pend.length ≤ 1000000000) (ha : s.acts.length ≤ 1000000000) (i : Int) (t : ByteArray) :
    Calls Tryz.prog 40 #[.pointer (some ⟨b, 0, none⟩), .int .i64 i, .string t] w fun e w' => e = .returned (.int .i64 (writeE s i t)) ∧ DF w0 w' b (writeS s i t) X ∧ Only (fun x => ¬ X x) w w' := by
  obtain ⟨v, h1, h2, h3, h4⟩ := h
  refine (write_any w _ b v s h1 h2.size h3 hp ha i t).mono ?_
  rintro e w' ⟨rfl, hP⟩
  exact ⟨rfl, DF.dpost h1 h2 (h3.write i t) h4 hP⟩
theorem pr9_pair (a : Nat) (l : List ByteArray) (m : Nat) : (prN a l m).Pairwise (fun x y => x.1 ≠ y.1) := by
  unfold prN
  refine List.pairwise_map.2 ((List.nodup_range (n := m)).imp (fun h => ?_))
  simp only
  omega
/-- The sectors of both. -/
def pt (l k : List ByteArray) (i j : Nat) : List (Nat × ByteArray) := prN 19 l i ++ prN 20 k j
theorem pt_len (l k : List ByteArray) (i j : Nat) : (pt l k i j).length = i + j := by rw [pt, List.length_append, prN_len, prN_len]
theorem prN_mem {a : Nat} {l : List ByteArray} {m : Nat} {p : Nat × ByteArray} (h : p ∈ prN a l m) : ∃ i, i < m ∧ p = (a + i, l.getD i ByteArray.empty) := by
  obtain ⟨i, hi, rfl⟩ := List.mem_map.1 h
  exact ⟨i, List.mem_range.1 hi, rfl⟩
theorem pt_pair (l k : List ByteArray) (j : Nat) : (pt l k 1 j).Pairwise (fun x y => x.1 ≠ y.1) := by
  refine List.pairwise_append.2 ⟨pr9_pair _ _ _, pr9_pair _ _ _, fun x hx y hy => ?_⟩
  obtain ⟨i, hi, rfl⟩ := prN_mem hx
  obtain ⟨q, hq, rfl⟩ := prN_mem hy
  simp only
  omega
theorem pt_at0 (l k : List ByteArray) (j : Nat) : (layP L0 (pt l k 1 j)).getD 19 ByteArray.empty = l.getD 0 ByteArray.empty :=
  layP_in _ _ _ _ (pt_pair l k j) (List.mem_append.2 (.inl (List.mem_map.2 ⟨0, List.mem_range.2 (by omega), rfl⟩))) (by rw [L0_len]; omega)
theorem pt_at (l k : List ByteArray) (j i : Nat) (hi : i < j) (h : 20 + j ≤ 128) : (layP L0 (pt l k 1 j)).getD (20 + i) ByteArray.empty = k.getD i ByteArray.empty :=
  layP_in _ _ _ _ (pt_pair l k j) (List.mem_append.2 (.inr (List.mem_map.2 ⟨i, List.mem_range.2 hi, rfl⟩))) (by rw [L0_len]; omega)
theorem pt_mem {l k : List ByteArray} {i j : Nat} {p : Nat × ByteArray} (h : p ∈ pt l k i j) : 19 ≤ p.1 ∧ ((∃ q, q < i ∧ p.2 = l.getD q ByteArray.empty) ∨ ∃ q, q < j ∧ p.2 = k.getD q ByteArray.empty) := by
  rcases List.mem_append.1 h with h | h
  · obtain ⟨q, hq, rfl⟩ := prN_mem h
    exact ⟨by simp only; omega, .inl ⟨q, hq, rfl⟩⟩
  · obtain ⟨q, hq, rfl⟩ := prN_mem h
    exact ⟨by simp only; omega, .inr ⟨q, hq, rfl⟩⟩
theorem pt_head (l k : List ByteArray) (i j : Nat) : (layP L0 (pt l k i j)).getD 1 ByteArray.empty = headB 0 [] := by
  rw [layP_skip _ _ _ (fun p hp => by have := (pt_mem hp).1; omega)]
  exact head0
theorem pg9_size (m i : Nat) (hm : m ≤ 1000) (hi : i < m) : ((pgZ m).getD i ByteArray.empty).size = 256 := by
  rw [pgZ_at _ _ hi]
  exact pgT_size i (by omega) zb zb_size
theorem pgI9_size (m i : Nat) (hm : m ≤ 1000) (hi : i < m) : ((pgZI m).getD i ByteArray.empty).size = 256 := by
  rw [pgZI_at _ _ hi]
  exact pgI_size i (by omega) ib0 ib0_size
set_option maxRecDepth 100000 in
set_option maxHeartbeats 2000000 in
theorem fresh9_any (n : Nat) (hn1 : 1 ≤ n) (hn2 : n ≤ 24) (w : World) (hg : ETy w) :
    Calls Tryz.prog 9 #[.int .i64 (n : Int)] w fun e w' => ∃ b jb pb xb mb sb gb L A, e = .returned (.pointer (some ⟨gb, 0, none⟩)) ∧ A.length ≤ 1000 ∧ CSt w w' b jb pb xb mb sb gb n 0 false L A 0 (fun _ => none) (fun _ => none) (fun _ => none) (fun _ => false) (fun _ => false) (fun i => L.getD (30 + i) ByteArray.empty) (fun i => L.getD (30 + i) ByteArray.empty) := by
  have HNW := hide (new128 w)
  have HQ := hide (And.intro hn1 (And.intro hn2 hg))
  have hp1 : pgs n = 1 := by unfold pgs; omega
  have hi4 : ipgs n ≤ 4 := by unfold ipgs; omega
  have HM := hide (fun W => minitial_any n hn1 (by omega) W)
  have HI := hide (fun W => iinitial_any n hn1 (by omega) W)
  rw [hp1] at HM
  obtain ⟨m, hm⟩ : ∃ q, ipgs n = q := ⟨_, rfl⟩
  rw [hm] at HI hi4
  have HMM := hide hm
  clear hg hn1 hn2 hm
  go_enter Tryz.func9, Tryz.ntmps9
  go_wp2_with fail
  refine (unhide HNW).mono ?_
  rintro e x1 ⟨b, rfl, v, h1, h5, h6⟩
  have HF := hide (format_any x1 w.heap.size b v _ h1 h5.size h6 (Nat.zero_le _) (Nat.zero_le _))
  rw [format_rs] at HF
  have H1 := hide (And.intro h1 (And.intro h5 h6))
  clear h1 h5 h6 HNW
  go_wp2_with fail
  refine (unhide HF).mono ?_
  rintro e x2 ⟨rfl, v2, k1, k2, k3⟩
  have hb2 := DI.only (unhide H1).1 (unhide H1).2.1 k2
  have hS2 : Sane (rs L0 A0) := by
    have := layR_sane [(1, headB 0 [])] _ (unhide H1).2.2
    rw [format_rs] at this
    exact this
  have X2 := hide (And.intro k1 (And.intro hb2 hS2))
  have HM' := hide (unhide HM x2)
  clear k1 k2 k3 hb2 hS2 H1 HF HM
  go_wp2_with fail
  refine (unhide HM').mono ?_
  rintro e x3 ⟨u, rfl, hU, hb3⟩
  have hU' : x3.ownsRow x2.heap.size 9 1 u (pgZ 1).length (strs (pgZ 1)) := by rw [pgZ_len]; exact hU
  obtain ⟨pv, cv, rfl, hst⟩ := Strs.ownB hU'
  have HI' := hide (unhide HI x3)
  have X3 := hide (And.intro hst hb3)
  clear hU hU' hst hb3 HI HM'
  go_wp2_with fail
  refine (unhide HI').mono ?_
  rintro e x4 ⟨u, rfl, hU, hb4⟩
  have hU' : x4.ownsRow x3.heap.size 9 1 u (pgZI m).length (strs (pgZI m)) := by rw [pgZI_len]; exact hU
  obtain ⟨pk, ck, rfl, hst⟩ := Strs.ownB hU'
  obtain ⟨g2, hg2⟩ : ∃ q, x2.heap.size = q := ⟨_, rfl⟩
  obtain ⟨g4, hg4⟩ : ∃ q, x4.heap.size = q := ⟨_, rfl⟩
  have hb24 : Below x2.heap.size x2 x4 := (unhide X3).2.trans (hb4.mono (unhide X3).2.size)
  have hm1 : 1 ≤ m := by rw [← unhide HMM]; have := (unhide HQ).1; unfold ipgs; omega
  obtain ⟨gv, ov, rfl, v2', v3', v4'⟩ := (unhide X3).1 0 (by rw [pgZ_len]; decide)
  obtain ⟨gk, ok, rfl, _, _, _⟩ := hst 0 (by rw [pgZI_len]; exact hm1)
  have HR := hide (show ((g2 ≤ gv ∧ gv < g4) ∧ x4.cell? ⟨gv, ov, none⟩ = some (.string ((pgZ 1).getD 0 ByteArray.empty))) ∧ (g2 ≤ gk ∧ gk < g4) ∧ (∀ j, j < m → x4.cell? ⟨gk, ok + j, none⟩ = some (.string ((pgZI m).getD j ByteArray.empty))) from ⟨⟨⟨by omega, by have := hb4.size; omega⟩, (hb4.cell (p := ⟨gv, ov, none⟩) v3').trans v4'⟩, ⟨by have := (unhide X3).2.size; omega, by omega⟩, fun j hj => by
      obtain ⟨g, oo, q1, q2, q3, q4⟩ := hst j (by rw [pgZI_len]; exact hj)
      cases q1
      exact q4⟩)
  have X4 := hide (show DF w x4 b (layT (pt (pgZ 1) (pgZI m) 0 0)) (fun x => g2 ≤ x ∧ x < g4) ∧ Only (fun x => ¬ (g2 ≤ x ∧ x < g4)) x4 x4 from ⟨⟨v2, (unhide X2).1.below hb24, (unhide X2).2.1.trans (hb24.mono (unhide X2).2.1.size), (unhide X2).2.2, fun x hx => ⟨fun q => by have := ((unhide X2).1.fd x q).2; omega, by omega⟩⟩, Only.refl _ _⟩)
  rw [pgZ_len, pgZI_len]
  clear hU hU' hst hb4 hb24 hg2 hg4 X2 X3 HI' v2' v3' v4' hm1
  go_wp2
  clear hp1
  go_loopw [10] (fun i wr => ∃ k : Nat, k ≤ 1 ∧ i = .int .i64 (k : Int) ∧ DF w wr b (layT (pt (pgZ 1) (pgZI m) k 0)) (fun x => g2 ≤ x ∧ x < g4) ∧ Only (fun x => ¬ (g2 ≤ x ∧ x < g4)) x4 wr) (fun i _ => 1 - (intOf i).toNat)
  case atStart => exact ⟨0, by omega, rfl, (unhide X4).1, (unhide X4).2⟩
  case round =>
    obtain ⟨k, hk, rfl, hD, hO⟩ := hrel
    obtain ⟨wo, rfl⟩ : ∃ wo, wo = wr := ⟨_, rfl⟩
    clear X4
    by_cases hkn : k < 1
    · obtain rfl : k = 0 := by omega
      obtain ⟨hgl, cg⟩ := (unhide HR).1
      have cg' : wo.cell? ⟨gv, ov, none⟩ = some (.string ((pgZ 1).getD 0 ByteArray.empty)) := (World.cell?_of_block (a := ⟨gv, ov, none⟩) (hO.2 gv (World.block_lt_of_cell? x4 _ cg) (fun q => q hgl))).trans cg
      have HWR := hide (hD.write (by show (pt (pgZ 1) (pgZI m) 0 0).length ≤ _; rw [pt_len]; decide) (by show (aT (pt (pgZ 1) (pgZI m) 0 0)).length ≤ _; rw [aT_len, pt_len]; decide) ((19 : Nat) : Int) ((pgZ 1).getD 0 ByteArray.empty))
      obtain ⟨w1, w2⟩ := layT_write (pt (pgZ 1) (pgZI m) 0 0) 19 ((pgZ 1).getD 0 ByteArray.empty) (by omega) (pg9_size 1 0 (by omega) (by omega))
      rw [w1, w2, show pt (pgZ 1) (pgZI m) 0 0 ++ [(19, (pgZ 1).getD 0 ByteArray.empty)] = pt (pgZ 1) (pgZI m) 1 0 from rfl] at HWR
      have HO := hide hO
      simp only [Int.cast_ofNat_Int] at HWR
      clear hD w1 w2 cg hO hgl
      generalize (pgZ 1).getD 0 ByteArray.empty = t at cg' HWR
      go_wp2_with (go_at_call 40; refine (unhide HWR).mono ?_; rintro e y1 ⟨rfl, hD1, hO1⟩)
      go_roundw
      case rel => exact ⟨1, by omega, rfl, hD1, (unhide HO).trans hO1 (fun _ _ q => q)⟩
      case measure => simp [intOf]
    · have hk1 : k = 1 := by omega
      have hkn' : ¬ (k : Int) < 1 := by omega
      have Y0 := hide (show DF w wo b (layT (pt (pgZ 1) (pgZI m) 1 0)) (fun x => g2 ≤ x ∧ x < g4) ∧ Only (fun x => ¬ (g2 ≤ x ∧ x < g4)) x4 wo from by rw [hk1] at hD; exact ⟨hD, hO⟩)
      obtain ⟨k0, hk0'⟩ : ∃ q, k = q := ⟨_, rfl⟩
      clear hD hO hkn hk hk1 hk0'
      go_wp2
      go_loopw [11] (fun i wr => ∃ k : Nat, k ≤ m ∧ i = .int .i64 (k : Int) ∧ DF w wr b (layT (pt (pgZ 1) (pgZI m) 1 k)) (fun x => g2 ≤ x ∧ x < g4) ∧ Only (fun x => ¬ (g2 ≤ x ∧ x < g4)) x4 wr) (fun i _ => m - (intOf i).toNat)
      case atStart => exact ⟨0, by omega, rfl, (unhide Y0).1, (unhide Y0).2⟩
      case round =>
        obtain ⟨k, hk, rfl, hD, hO⟩ := hrel
        obtain ⟨wp, rfl⟩ : ∃ wp, wp = wr := ⟨_, rfl⟩
        clear Y0
        by_cases hkn : k < m
        · have hkn' : (k : Int) < (m : Int) := by omega
          have hk0 : (0 : Int) ≤ (k : Int) := by omega
          have hgl := (unhide HR).2.1
          have cg := (unhide HR).2.2 k hkn
          have cg' : wp.cell? ⟨gk, ok + k, none⟩ = some (.string ((pgZI m).getD k ByteArray.empty)) := (World.cell?_of_block (a := ⟨gk, ok + k, none⟩) (hO.2 gk (World.block_lt_of_cell? x4 _ cg) (fun q => q hgl))).trans cg
          have HWR := hide (hD.write (by show (pt (pgZ 1) (pgZI m) 1 k).length ≤ _; rw [pt_len]; omega) (by show (aT (pt (pgZ 1) (pgZI m) 1 k)).length ≤ _; rw [aT_len, pt_len]; omega) ((20 + k : Nat) : Int) ((pgZI m).getD k ByteArray.empty))
          obtain ⟨w1, w2⟩ := layT_write (pt (pgZ 1) (pgZI m) 1 k) (20 + k) ((pgZI m).getD k ByteArray.empty) (by omega) (pgI9_size m k (by omega) hkn)
          rw [w1, w2, show pt (pgZ 1) (pgZI m) 1 k ++ [(20 + k, (pgZI m).getD k ByteArray.empty)] = pt (pgZ 1) (pgZI m) 1 (k + 1) from by rw [pt, pt, List.append_assoc, prN_succ 20]] at HWR
          have e1 : (20 : Int) + (k : Int) = ((20 + k : Nat) : Int) := by omega
          have hq : 20 + k ≤ 1000 := by omega
          have HO := hide hO
          clear hD w1 w2 cg hO hgl
          generalize 20 + k = ak at *
          generalize (pgZI m).getD k ByteArray.empty = t at cg' HWR
          go_wp2_with (go_at_call 40; refine (unhide HWR).mono ?_; rintro e y1 ⟨rfl, hD1, hO1⟩)
          go_roundw
          case rel => exact ⟨k + 1, by omega, by go_num, hD1, (unhide HO).trans hO1 (fun _ _ q => q)⟩
          case measure => simp [intOf]; omega
        · have hkn' : ¬ (k : Int) < (m : Int) := by omega
          have hke : m = k := by omega
          have hD' := hD.di
          have HFL := hide (flushD hD' (by show (pt (pgZ 1) (pgZI m) 1 k).length ≤ _; rw [pt_len]; omega) (by show (aT (pt (pgZ 1) (pgZI m) 1 k)).length ≤ _; rw [aT_len, pt_len]; omega))
          rw [(layT_flush _).1, (layT_flush _).2] at HFL
          have HKE := hide hke
          clear hD hD' hO hke
          go_wp2_with fail
          refine (unhide HFL).mono ?_
          rintro e y1 ⟨rfl, vd, d1, d2, d3⟩
          obtain ⟨hn1, hn2, hgw⟩ := unhide HQ
          have hmk : ipgs n = k := (unhide HMM).trans (unhide HKE)
          have hke := unhide HKE
          have HP := hide (parts9_any (n := n) (T := fun _ => none) (B := fun _ => false) d1 d2 hgw d3 0 (by decide) (by rw [layP_len, L0_len]) (layP_size _ _ L0_size (fun p hp => by
              rcases (pt_mem hp).2 with ⟨q, hq, e⟩ | ⟨q, hq, e⟩
              · rw [e]; exact pg9_size 1 q (by omega) hq
              · rw [e]; exact pgI9_size m q (by omega) (by omega))) (pt_head _ _ _ _) (by rw [List.length_append, aT_len, pt_len]; simp only [List.length_cons, List.length_nil]; omega) (fun q hq => by
              rw [pt_at _ _ k q (by omega) (by omega), pgZI_at _ _ (by omega), ib0_ibd]) (TOk.zero n) (fun q hq => by
              obtain rfl : q = 0 := by unfold pgs at hq; omega
              refine ⟨zb, zb_size, ?_, fun j _ => by rw [zb_bit]; simp⟩
              rw [show (19 + 0 : Nat) = 19 from rfl, pt_at0, pgZ_at _ _ (by omega)]) hn1 hn2)
          have hAl : (aT (pt (pgZ 1) (pgZI m) 1 k) ++ [(1, 0)]).length ≤ 1000 := by rw [List.length_append, aT_len, pt_len]; simp only [List.length_cons, List.length_nil]; omega
          have HAL := hide hAl
          clear d1 d2 d3 hn1 hn2 hgw hmk hAl hke HFL
          go_wp2_with (go_at_call 28; refine (unhide HP).mono ?_; rintro e y2 ⟨jb, pb, xb, mb, sb, gb, rfl, hC⟩)
          go_ret
          exact ⟨b, jb, pb, xb, mb, sb, gb, _, _, rfl, unhide HAL, hC⟩
end Go.Proofs.YtdpnbemagiekoaaGreatDoor

namespace Go.Proofs.YtdpnbemagiekoaaGreatDoor
open Go.RowKit Go.Maps Go.Sort Go.Shelf
theorem lea0 (n : Nat) (h : 0 < n) : Lea (fun _ => false) n 0 := ⟨h, rfl, fun j hj => absurd hj (Nat.not_lt_zero j)⟩
end Go.Proofs.YtdpnbemagiekoaaGreatDoor

namespace Go.Proofs.YtdpnbemagiekoaaGreatDoor
open Go.RowKit Go.Maps Go.Sort Go.Shelf
end Go.Proofs.YtdpnbemagiekoaaGreatDoor

namespace Go.Proofs.YtdpnbemagiekoaaGreatDoor
open Go.RowKit Go.Maps Go.Sort Go.Shelf
end Go.Proofs.YtdpnbemagiekoaaGreatDoor

namespace Go.Proofs.YtdpnbemagiekoaaGreatDoor
open Go.RowKit Go.Maps Go.Sort Go.Shelf
/-- The cells of a slot, as the law keeps it. -/
def slC (i : Nat) : En → List Value
  | none => [.int .i64 0, .string ⟨#[]⟩, .int .i64 0]
  | some (d, c) => [.int .i64 (i : Int), .string d, .int .i64 (c : Int)]
theorem slC_len (i : Nat) (e : En) : (slC i e).length = 3 := by cases e <;> rfl
end Go.Proofs.YtdpnbemagiekoaaGreatDoor

namespace Go.Proofs.YtdpnbemagiekoaaGreatDoor
open Go.RowKit Go.Maps Go.Sort Go.Shelf
end Go.Proofs.YtdpnbemagiekoaaGreatDoor
