import Derived.Test.YtnfcnpolflfpfaaGreatDoorMr41
namespace Go.Proofs.YtnfcnpolflfpfaaGreatDoor
open Go.RowKit Go.Maps Go.Sort Go.Shelf
/-- A pool that was opened on a disk with an index's pages. -/
def PoolI (w0 : World) (b a n kp : Nat) (R : List ByteArray → List (Nat × Nat) → (Nat → En) → Prop) (e : Ending) (w' : World) : Prop :=
  ∃ jb pb S L A n0 T, e = .returned (.tuple #[.pointer (some ⟨pb, 0, none⟩), .int .i64 0]) ∧ PK w0 w' b jb pb S (fun _ => False) ∧ Seen S L A n0 L L ∧ S.op = false ∧ (S.tx = [] ∧ S.keep = kp) ∧ IS L a n T ∧ TOk n T ∧ R L A T
/-- Open of a disk at rest whose head is clear. -/
theorem ipopen_rest {w0 w : World} {b : Nat} {v : DV} {L : List ByteArray} {A : List (Nat × Nat)} {a n : Nat} {T : Nat → En} (h : Dk w w0.heap.size b v (rs L A)) (h0 : Below w0.heap.size w0 w) (hg : ETy w) (hS : Sane (rs L A)) (n0 : Nat) (hn0 : n0 < 4294967296) (hL : L.length = 128) (hz : ∀ t ∈ L, t.size = 256) (hh : L.getD 1 ByteArray.empty = headB n0 []) (ha : A.length ≤ 10000000) (keep : Nat) (hk : keep ≤ 64) (hm : IS L a n T) (hTO : TOk n T) (R : List ByteArray → List (Nat × Nat) → (Nat → En) → Prop) (hR : R L A T) :
    Calls Tryz.prog 25 #[.pointer (some ⟨b, 0, none⟩), .int .i64 (keep : Int)] w (PoolI w0 b a n keep R) := by
  have hO := open_clear h hg h0.size hS n0 hn0 (by omega) hh ha
  refine (popen_any w b keep hk (fun jp ag er w1 => er = 0 ∧ ∃ jb, jp = some ⟨jb, 0, none⟩ ∧ JK w0 w1 b jb (rs L A) ((n0 + 1) % 4294967296) false (fun _ => False)) (hO.mono (fun e w1 q => by
    obtain ⟨jb, rfl, hJ⟩ := q
    exact ⟨_, _, _, rfl, rfl, jb, rfl, JI.jk (JNew.ji h h0 hS hJ)⟩))).mono ?_
  rintro e w' ⟨jp, ag, er, w1, ⟨rfl, jb, rfl, hJ⟩, q | ⟨_, pb, bw, bv, rfl, hP⟩⟩
  · exact absurd rfl q.1
  · exact ⟨jb, pb, restP L A ((n0 + 1) % 4294967296) keep, L, A, n0, T, rfl, POk.pk hJ hk hP, ⟨⟨rfl, rfl, rfl, rfl⟩, hL, hz, hh, hn0, fun k _ _ => rfl, hL, hL, fun k _ _ => rfl, fun _ => rfl, fun p hp => by cases hp⟩, rfl, ⟨rfl, rfl⟩, hm, hTO, hR⟩
theorem pr_pair (a : Nat) (l : List ByteArray) (m : Nat) : (prN a l m).Pairwise (fun x y => x.1 ≠ y.1) := by
  unfold prN
  refine List.pairwise_map.2 ((List.nodup_range (n := m)).imp (fun h => ?_))
  simp only
  omega
theorem ld_at (a : Nat) (l : List ByteArray) (h : a + l.length ≤ 128) (k : Nat) (hk : k < l.length) : (ldL a l).getD (a + k) ByteArray.empty = l.getD k ByteArray.empty :=
  layP_in _ _ _ _ (pr_pair a l _) (List.mem_map.2 ⟨k, List.mem_range.2 hk, rfl⟩) (by rw [L0_len]; omega)
theorem ld_head (a : Nat) (l : List ByteArray) (h : 19 ≤ a) : (ldL a l).getD 1 ByteArray.empty = headB 0 [] := by
  unfold ldL
  rw [layP_skip _ _ _ (fun p hp => by
    obtain ⟨i, _, rfl⟩ := List.mem_map.1 hp
    simp only
    omega)]
  exact head0
theorem ld_len (a : Nat) (l : List ByteArray) : (ldL a l).length = 128 := by unfold ldL; rw [layP_len, L0_len]
theorem ld_size (a : Nat) (l : List ByteArray) (hz : ∀ i, i < l.length → (l.getD i ByteArray.empty).size = 256) : ∀ t ∈ ldL a l, t.size = 256 :=
  layP_size _ _ L0_size (fun p hp => by
    obtain ⟨i, hi, rfl⟩ := List.mem_map.1 hp
    exact hz i (List.mem_range.1 hi))
theorem ldA_len (a : Nat) (l : List ByteArray) : (ldA a l).length = l.length + 3 := by
  unfold ldA
  rw [List.length_append, List.length_append, prA_len]
  show 2 + l.length + 1 = _
  omega

/-- Keys within a map's pages are few. -/
theorem itx_few {tx : Tx} {a n : Nat} (hs : Srt tx) (hn : n ≤ 24) (h : ∀ p ∈ tx, (a : Int) ≤ p.1 ∧ p.1 < (a : Int) + (ipgs n : Int)) : tx.length ≤ 4 := by
  have h1 : (tx.map (·.1)).Nodup := List.pairwise_map.2 (hs.imp (fun q => by omega))
  have h2 := nodup_sub (tx.map (·.1)) ((List.range 4).map fun i => ((a + i : Nat) : Int)) h1 (fun x hx => by
    obtain ⟨p, hp, rfl⟩ := List.mem_map.1 hx
    obtain ⟨q1, q2⟩ := h p hp
    have : ipgs n ≤ 4 := by unfold ipgs; omega
    exact List.mem_map.2 ⟨(p.1 - (a : Int)).toNat, List.mem_range.2 (by omega), by omega⟩)
  simpa using h2

/-- The open transaction has written the index's own pages alone. -/
def TxII (S : PS) (a n : Nat) : Prop := ∀ p ∈ S.tx, (a : Int) ≤ p.1 ∧ p.1 < (a : Int) + (ipgs n : Int)
/-- An index over a pool whose disk lives: Tw is what was committed, T what the transaction sees, U what memory knows. -/
def ISt (w0 w : World) (b jb pb xb : Nat) (Y : Nat → Prop) (a n kp : Nat) (op : Bool) (L : List ByteArray) (A : List (Nat × Nat)) (hn : Nat) (Tw T U : Nat → En) : Prop :=
  ∃ S eb bm Mw Mn, IG w0 w b jb pb xb eb bm Y a n S L A hn Mw Mn T U ∧ IS Mw a n Tw ∧ TOk n Tw ∧ S.op = op ∧ (TxII S a n ∧ S.keep = kp)
theorem IG.room {w0 w : World} {b jb pb xb eb bm : Nat} {Y : Nat → Prop} {a n : Nat} {S : PS} {L : List ByteArray} {A : List (Nat × Nat)} {hn : Nat} {Mw Mn : List ByteArray} {T U : Nat → En} (h : IG w0 w b jb pb xb eb bm Y a n S L A hn Mw Mn T U) (hn24 : n ≤ 24) (ht : TxII S a n) (i : Int) : roomB S i = true := by
  have := itx_few h.srt hn24 ht
  unfold roomB
  rw [Bool.or_eq_true]
  exact .inr (decide_eq_true (by omega))
theorem ISt.below {w0 w : World} {b jb pb xb : Nat} {Y : Nat → Prop} {a n kp : Nat} {op : Bool} {L : List ByteArray} {A : List (Nat × Nat)} {hn : Nat} {Tw T U : Nat → En} (h : ISt w0 w b jb pb xb Y a n kp op L A hn Tw T U) {w' : World} (hb : Below w.heap.size w w') : ISt w0 w' b jb pb xb Y a n kp op L A hn Tw T U := by
  obtain ⟨S, eb, bm, Mw, Mn, h1, h2, h2o, h3, h4⟩ := h
  exact ⟨S, eb, bm, Mw, Mn, h1.below hb, h2, h2o, h3, h4⟩
theorem ISt.more {w0 w : World} {b jb pb xb : Nat} {Y : Nat → Prop} {a n kp : Nat} {op : Bool} {L : List ByteArray} {A : List (Nat × Nat)} {hn : Nat} {Tw T U : Nat → En} (h : ISt w0 w b jb pb xb Y a n kp op L A hn Tw T U) {w' : World} {Z : Nat → Prop} (hb : Below w.heap.size w w') (hz : ∀ x, Z x → Y x ∨ (w.heap.size ≤ x ∧ x < w'.heap.size)) : ISt w0 w' b jb pb xb Z a n kp op L A hn Tw T U := by
  obtain ⟨S, eb, bm, Mw, Mn, h1, h2, h2o, h3, h4⟩ := h
  exact ⟨S, eb, bm, Mw, Mn, h1.more hb hz, h2, h2o, h3, h4⟩
theorem ISt.poke {w0 w : World} {b jb pb xb : Nat} {Y : Nat → Prop} {a n kp : Nat} {op : Bool} {L : List ByteArray} {A : List (Nat × Nat)} {hn : Nat} {Tw T U : Nat → En} (h : ISt w0 w b jb pb xb Y a n kp op L A hn Tw T U) {w' : World} {Z P : Nat → Prop} (ho : Only P w w') (hP : ∀ x, P x → x < w.heap.size → Y x) (hlo : ∀ x, P x → w0.heap.size ≤ x) (hz : ∀ x, Z x → Y x ∨ (w.heap.size ≤ x ∧ x < w'.heap.size)) : ISt w0 w' b jb pb xb Z a n kp op L A hn Tw T U := by
  obtain ⟨S, eb, bm, Mw, Mn, h1, h2, h2o, h3, h4⟩ := h
  exact ⟨S, eb, bm, Mw, Mn, h1.poke ho hP hlo hz, h2, h2o, h3, h4⟩
theorem ISt.less {w0 w : World} {b jb pb xb : Nat} {Y : Nat → Prop} {a n kp : Nat} {op : Bool} {L : List ByteArray} {A : List (Nat × Nat)} {hn : Nat} {Tw T U : Nat → En} (h : ISt w0 w b jb pb xb Y a n kp op L A hn Tw T U) {Z : Nat → Prop} (hz : ∀ x, Z x → Y x) : ISt w0 w b jb pb xb Z a n kp op L A hn Tw T U := h.more (Below.refl _ _) (fun x q => .inl (hz x q))
theorem ISt.bel {w0 w : World} {b jb pb xb : Nat} {Y : Nat → Prop} {a n kp : Nat} {op : Bool} {L : List ByteArray} {A : List (Nat × Nat)} {hn : Nat} {Tw T U : Nat → En} (h : ISt w0 w b jb pb xb Y a n kp op L A hn Tw T U) : Below w0.heap.size w0 w := by
  obtain ⟨S, eb, bm, Mw, Mn, h1, h2, h2o, h3, h4⟩ := h
  exact h1.pk.bel
theorem ISt.lt {w0 w : World} {b jb pb xb : Nat} {Y : Nat → Prop} {a n kp : Nat} {op : Bool} {L : List ByteArray} {A : List (Nat × Nat)} {hn : Nat} {Tw T U : Nat → En} (h : ISt w0 w b jb pb xb Y a n kp op L A hn Tw T U) (x : Nat) (hx : Y x) : x < w.heap.size := by
  obtain ⟨S, eb, bm, Mw, Mn, h1, h2, h2o, h3, h4⟩ := h
  exact h1.pk.lt x (.inl hx)
theorem ISt.ety {w0 w : World} {b jb pb xb : Nat} {Y : Nat → Prop} {a n kp : Nat} {op : Bool} {L : List ByteArray} {A : List (Nat × Nat)} {hn : Nat} {Tw T U : Nat → En} (h : ISt w0 w b jb pb xb Y a n kp op L A hn Tw T U) : ETy w := by
  obtain ⟨S, eb, bm, Mw, Mn, h1, h2, h2o, h3, h4⟩ := h
  exact h1.ety.below h1.pk.bel h1.ety.lt
theorem ISt.ok {w0 w : World} {b jb pb xb : Nat} {Y : Nat → Prop} {a n kp : Nat} {op : Bool} {L : List ByteArray} {A : List (Nat × Nat)} {hn : Nat} {Tw T U : Nat → En} (h : ISt w0 w b jb pb xb Y a n kp op L A hn Tw T U) : TOk n T ∧ TOk n U ∧ TOk n Tw := by
  obtain ⟨S, eb, bm, Mw, Mn, h1, h2, h2o, h3, h4⟩ := h
  exact ⟨h1.ok, h1.oku, h2o⟩
theorem ISt.im {w0 w : World} {b jb pb xb : Nat} {Y : Nat → Prop} {a n kp : Nat} {op : Bool} {L : List ByteArray} {A : List (Nat × Nat)} {hn : Nat} {Tw T U : Nat → En} (h : ISt w0 w b jb pb xb Y a n kp op L A hn Tw T U) : ∃ eb bm, IM w0 w xb pb a eb bm n U := by
  obtain ⟨S, eb, bm, Mw, Mn, h1, h2, h2o, h3, h4⟩ := h
  exact ⟨eb, bm, h1.im⟩
theorem ISt.begin {w0 w : World} {b jb pb xb : Nat} {Y : Nat → Prop} {a n kp : Nat} {L : List ByteArray} {A : List (Nat × Nat)} {hn : Nat} {Tw T U : Nat → En} (h : ISt w0 w b jb pb xb Y a n kp false L A hn Tw T U) : Calls Tryz.prog 10 #[.pointer (some ⟨pb, 0, none⟩)] w fun e w' => e = .returned (.int .i64 0) ∧ ISt w0 w' b jb pb xb Y a n kp true L A hn Tw T U ∧ Only (fun x => ¬ Y x) w w' := by
  obtain ⟨S, eb, bm, Mw, Mn, h1, h2, h2o, h3, h4⟩ := h
  obtain ⟨s1, s2, s3, s4⟩ := h1.seen.begin
  rw [h3] at s1
  have hc := pbegin_any h1.pk
  rw [show beginE S = 0 from s1] at hc
  refine hc.mono ?_
  rintro e w' ⟨rfl, K, hO⟩
  exact ⟨rfl, ⟨_, eb, bm, Mw, Mn, h1.next K hO s2 h1.is h1.ok, h2, h2o, s3, ⟨by unfold TxII; rw [s4]; exact h4.1, by rw [← h4.2]; unfold beginS; split <;> (try split) <;> rfl⟩⟩, hO.mono (fun x _ q r => q (.inl r))⟩
theorem IChg.st {w0 w : World} {b jb pb xb eb bm : Nat} {Y : Nat → Prop} {a n kp : Nat} {S : PS} {L : List ByteArray} {A : List (Nat × Nat)} {hn : Nat} {Mw : List ByteArray} {Tw T : Nat → En} {p : Nat} {w' : World} (k : IChg w0 w b jb pb xb eb bm Y a n S L A hn Mw T p w') (hp : p < n) (h2 : IS Mw a n Tw) (h2o : TOk n Tw) (h4 : TxII S a n ∧ S.keep = kp) : ISt w0 w' b jb pb xb Y a n kp true L A hn Tw T T ∧ Only (fun x => ¬ Y x) w w' := by
  obtain ⟨S', Mn', k1, k2, ⟨k3, k5⟩, k4⟩ := k
  refine ⟨⟨S', eb, bm, Mw, Mn', k1, h2, h2o, k2, fun q hq => ?_, k5.trans h4.2⟩, k4⟩
  rcases k3 q hq with e | e
  · exact h4.1 q e
  · have := ipgs_lt hp
    rw [e]
    omega
theorem IKept.st {w0 w : World} {b jb pb xb eb bm : Nat} {Y : Nat → Prop} {a n kp : Nat} {op : Bool} {S : PS} {L : List ByteArray} {A : List (Nat × Nat)} {hn : Nat} {Mw Mn : List ByteArray} {Tw T U : Nat → En} {w' : World} (k : IKept w0 w b jb pb xb eb bm Y a n S L A hn Mw Mn T U w') (h2 : IS Mw a n Tw) (h2o : TOk n Tw) (h3 : S.op = op) (h4 : TxII S a n ∧ S.keep = kp) : ISt w0 w' b jb pb xb Y a n kp op L A hn Tw T U ∧ Only (fun x => ¬ Y x) w w' := by
  obtain ⟨S', k1, k2, k3, k4⟩ := k
  exact ⟨⟨S', eb, bm, Mw, Mn, k1, h2, h2o, k2.trans h3, ⟨by unfold TxII; rw [k3.1]; exact h4.1, k3.2.trans h4.2⟩⟩, k4.mono (fun x _ q r => q (.inl r))⟩
/-- Put of what stands nowhere else. -/
theorem ISt.put {w0 w : World} {b jb pb xb : Nat} {Y : Nat → Prop} {a n kp : Nat} {L : List ByteArray} {A : List (Nat × Nat)} {hn : Nat} {Tw T : Nat → En} (h : ISt w0 w b jb pb xb Y a n kp true L A hn Tw T T) (hn24 : n ≤ 24) (i : Nat) (hi : i < n) (d : ByteArray) (hd : d.size = 32) (c : Nat) (hc1 : 1 ≤ c) (hc2 : c ≤ 65535) (hf : ∀ j c', T j = some (d, c') → j = i) : Calls Tryz.prog 40 #[.pointer (some ⟨xb, 0, none⟩), .agg #[.int .i64 (i : Int), .string d, .int .i64 (c : Int)]] w fun e w' => e = .returned (.int .i64 0) ∧ ISt w0 w' b jb pb xb Y a n kp true L A hn Tw (upd T i (some (d, c))) (upd T i (some (d, c))) ∧ Only (fun x => ¬ Y x) w w' := by
  obtain ⟨S, eb, bm, Mw, Mn, h1, h2, h2o, h3, h4⟩ := h
  by_cases q : ∃ c', T i = some (d, c')
  · obtain ⟨c', hT⟩ := q
    refine (iput_hit h1 h3 i hi d hd c hc1 hc2 c' hT (h1.room hn24 h4.1 _)).mono ?_
    rintro e w' ⟨rfl, k⟩
    exact ⟨rfl, k.st hi h2 h2o h4⟩
  · refine (iput_miss h1 h3 i hi d hd c hc1 hc2 (fun j c' hj => q ⟨c', by rw [← hf j c' hj]; exact hj⟩) (h1.room hn24 h4.1 _)).mono ?_
    rintro e w' ⟨rfl, k⟩
    exact ⟨rfl, k.st hi h2 h2o h4⟩
theorem ISt.twice {w0 w : World} {b jb pb xb : Nat} {Y : Nat → Prop} {a n kp : Nat} {L : List ByteArray} {A : List (Nat × Nat)} {hn : Nat} {Tw T : Nat → En} (h : ISt w0 w b jb pb xb Y a n kp true L A hn Tw T T) (i : Nat) (hi : i < n) (d : ByteArray) (hd : d.size = 32) (c : Nat) (hc1 : 1 ≤ c) (hc2 : c ≤ 65535) (j c' : Nat) (hj : T j = some (d, c')) (hji : j ≠ i) : Calls Tryz.prog 40 #[.pointer (some ⟨xb, 0, none⟩), .agg #[.int .i64 (i : Int), .string d, .int .i64 (c : Int)]] w fun e w' => e = .returned (.int .i64 81) ∧ ISt w0 w' b jb pb xb Y a n kp true L A hn Tw T T ∧ Only (fun x => ¬ Y x) w w' := by
  obtain ⟨S, eb, bm, Mw, Mn, h1, h2, h2o, h3, h4⟩ := h
  refine (iput_twice h1 h3 i hi d hd c hc1 hc2 j c' hj hji).mono ?_
  rintro e w' ⟨rfl, k⟩
  exact ⟨rfl, k.st h2 h2o h3 h4⟩
theorem ISt.clear {w0 w : World} {b jb pb xb : Nat} {Y : Nat → Prop} {a n kp : Nat} {L : List ByteArray} {A : List (Nat × Nat)} {hn : Nat} {Tw T : Nat → En} (h : ISt w0 w b jb pb xb Y a n kp true L A hn Tw T T) (hn24 : n ≤ 24) (i : Nat) (hi : i < n) (d : ByteArray) (c : Nat) (hT : T i = some (d, c)) : Calls Tryz.prog 43 #[.pointer (some ⟨xb, 0, none⟩), .int .i64 (i : Int)] w fun e w' => e = .returned (.int .i64 0) ∧ ISt w0 w' b jb pb xb Y a n kp true L A hn Tw (upd T i none) (upd T i none) ∧ Only (fun x => ¬ Y x) w w' := by
  obtain ⟨S, eb, bm, Mw, Mn, h1, h2, h2o, h3, h4⟩ := h
  refine (iclear_ok h1 h3 i hi d c hT (h1.room hn24 h4.1 _)).mono ?_
  rintro e w' ⟨rfl, k⟩
  exact ⟨rfl, k.st hi h2 h2o h4⟩
theorem ISt.clear_none {w0 w : World} {b jb pb xb : Nat} {Y : Nat → Prop} {a n kp : Nat} {L : List ByteArray} {A : List (Nat × Nat)} {hn : Nat} {Tw T : Nat → En} (h : ISt w0 w b jb pb xb Y a n kp true L A hn Tw T T) (i : Nat) (hi : i < n) (hT : T i = none) : Calls Tryz.prog 43 #[.pointer (some ⟨xb, 0, none⟩), .int .i64 (i : Int)] w fun e w' => e = .returned (.int .i64 80) ∧ ISt w0 w' b jb pb xb Y a n kp true L A hn Tw T T ∧ Only (fun x => ¬ Y x) w w' := by
  obtain ⟨S, eb, bm, Mw, Mn, h1, h2, h2o, h3, h4⟩ := h
  refine (iclear_none h1 h3 i hi none rfl hT).mono ?_
  rintro e w' ⟨rfl, k⟩
  exact ⟨rfl, k.st h2 h2o h3 h4⟩
/-- The transaction is committed. -/
theorem ISt.commit {w0 w : World} {b jb pb xb : Nat} {Y : Nat → Prop} {a n kp : Nat} {L : List ByteArray} {A : List (Nat × Nat)} {hn : Nat} {Tw T U : Nat → En} (h : ISt w0 w b jb pb xb Y a n kp true L A hn Tw T U) (ha : A.length ≤ 1000000) : Calls Tryz.prog 12 #[.pointer (some ⟨pb, 0, none⟩)] w fun e w' => e = .returned (.int .i64 0) ∧ (∃ L' A', A'.length ≤ A.length + 38 ∧ ISt w0 w' b jb pb xb Y a n kp false L' A' ((hn + 1) % 4294967296) T T U) ∧ Only (fun x => ¬ Y x) w w' := by
  obtain ⟨S, eb, bm, Mw, Mn, h1, h2, h2o, h3, h4⟩ := h
  obtain ⟨s1, s2, s3⟩ := h1.seen.commit h3 h1.srt h1.t16 h1.tok
  have hc := pcommit_any h1.pk (by rw [h1.seen.rst.nx]; exact Nat.mod_lt _ (by decide)) (by rw [h1.seen.rst.s]; exact Nat.zero_le _) (by rw [h1.seen.rst.s]; show A.length ≤ _; omega)
  rw [s1] at hc
  refine hc.mono ?_
  rintro e w' ⟨rfl, K, hO⟩
  refine ⟨rfl, ⟨_, _, ?_, _, eb, bm, Mn, Mn, h1.next K hO s2 h1.is h1.ok, h1.is, h1.ok, s3, ?_, ?_⟩, hO.mono (fun x _ q r => q (.inl r))⟩
  · rw [List.length_append, comA_len _ h1.t16]
    exact Nat.le_refl _
  · unfold TxII
    rw [s2.cl s3]
    intro p hp
    cases hp
  · rw [← h4.2]
    exact (commit_rest h1.seen.rst h3 h1.seen.len (tx_good h1.srt h1.t16 h1.tok)).2.2.2.2.1
/-- What lasts on the disk beneath. -/
theorem ISt.lasts {w0 w : World} {b jb pb xb : Nat} {Y : Nat → Prop} {a n kp : Nat} {op : Bool} {L : List ByteArray} {A : List (Nat × Nat)} {hn : Nat} {Tw T U : Nat → En} (h : ISt w0 w b jb pb xb Y a n kp op L A hn Tw T U) : IS L a n Tw ∧ L.length = 128 ∧ (∀ t ∈ L, t.size = 256) ∧ L.getD 1 ByteArray.empty = headB hn [] ∧ hn < 4294967296 := by
  obtain ⟨S, eb, bm, Mw, Mn, h1, h2, h2o, h3, h4⟩ := h
  have h5 := h1.hi
  have h6 := h1.lo
  refine ⟨h2.over (fun k hk => h1.seen.was (a + k) (by omega) (by rw [h1.seen.len]; omega)), h1.seen.len, h1.seen.siz, h1.seen.hd, h1.seen.hn⟩
theorem results_tmp4 {fn : Func} {t u v x : Tmp} (h : fn.results = #[.tmp t, .tmp u, .tmp v, .tmp x]) (tmps : Array Value) (P : Program) (w : World) :
    (results fn tmps).run P w = .ok (.tuple #[tmps.getD t undef, tmps.getD u undef, tmps.getD v undef, tmps.getD x undef]) w := by
  simp [results, h]
theorem pgZI_size (m i : Nat) (hm : m ≤ 1000) (hi : i < (pgZI m).length) : ((pgZI m).getD i ByteArray.empty).size = 256 := by
  rw [pgZI_len] at hi
  rw [pgZI_at _ _ hi]
  exact pgI_size i (by omega) ib0 ib0_size
theorem is_zero (a n : Nat) (h : a + ipgs n ≤ 128) : IS (ldL a (pgZI (ipgs n))) a n (fun _ => none) := fun k hk => by
  rw [ld_at a _ (by rw [pgZI_len]; exact h) k (by rw [pgZI_len]; exact hk), pgZI_at _ _ hk, ib0_ibd]
set_option maxRecDepth 100000 in
set_option maxHeartbeats 2000000 in
theorem opened_any (n : Nat) (hn1 : 1 ≤ n) (hn2 : n ≤ 24) (w : World) (hg : ETy w) :
    Calls Tryz.prog 9 #[.int .i64 (n : Int)] w fun e w' => ∃ b pb xb, e = .returned (.tuple #[.pointer (some ⟨b, 0, none⟩), .pointer (some ⟨pb, 0, none⟩), .pointer (some ⟨xb, 0, none⟩), .bool true]) ∧ ∃ jb L A hn, A.length ≤ 1000 ∧ ISt w w' b jb pb xb (fun _ => False) 30 n 4 false L A hn (fun _ => none) (fun _ => none) (fun _ => none) := by
  have h4 : ipgs n ≤ 4 := by unfold ipgs; omega
  have hp1 : 1 ≤ ipgs n := by unfold ipgs; omega
  have HIN := hide (iinitial_any n hn1 (by omega) w)
  have HQ := hide (And.intro hn1 (And.intro hn2 hg))
  clear hg hn1
  go_enter Tryz.func9, Tryz.ntmps9
  go_wp2_with fail
  refine (unhide HIN).mono ?_
  rintro e x1 ⟨v, rfl, hR, hB⟩
  obtain ⟨hn1, hn2', hg⟩ := unhide HQ
  have hR' : x1.ownsRow w.heap.size 9 1 v (pgZI (ipgs n)).length (strs (pgZI (ipgs n))) := by rw [pgZI_len]; exact hR
  obtain ⟨pv, cv, rfl, hst⟩ := Strs.own hR'
  have hz : ∀ i, i < (pgZI (ipgs n)).length → ((pgZI (ipgs n)).getD i ByteArray.empty).size = 256 := fun i hi => pgZI_size _ i (by omega) hi
  have HLD := hide (ilaid_any pv cv (pgZI (ipgs n)) 30 (pgZI (ipgs n)).length rfl hz (by decide) (by rw [pgZI_len]; omega) x1 hst)
  simp only [Int.cast_ofNat_Int] at HLD
  have HB := hide (And.intro hB hz)
  clear hR hB hR' hst hz HIN
  obtain ⟨ll, hll⟩ : ∃ q, (pgZI (ipgs n)).length = q := ⟨_, rfl⟩
  have hl0 : ((ll : Int) == 0) = false := by rw [← hll, pgZI_len]; simp; omega
  rw [hll] at HLD ⊢
  clear hll
  go_wp2_with fail
  refine (unhide HLD).mono ?_
  rintro e x2 ⟨b, rfl, dv, d1, d2, d3⟩
  obtain ⟨hB, hz⟩ := unhide HB
  have hb2 : Below w.heap.size w x2 := hB.trans (d2.mono hB.size)
  have HPO := hide (ipopen_rest (w0 := w) (T := fun _ => none) (n := n) (a := 30) (Dk.lower d1 hB.size) hb2 (hg.below hb2 hg.lt) d3 0 (by decide) (ld_len _ _) (ld_size 30 _ hz) (ld_head 30 _ (by decide)) (by rw [ldA_len, pgZI_len]; omega) 4 (by decide) (is_zero 30 n (by omega)) (TOk.zero n) (fun L A T => L = ldL 30 (pgZI (ipgs n)) ∧ T = (fun _ => none) ∧ A.length ≤ 1000) ⟨rfl, rfl, by rw [ldA_len, pgZI_len]; omega⟩)
  simp only [Int.cast_ofNat_Int] at HPO
  clear d1 d2 d3 hb2 hB hz hn1 hn2' hg HLD HB
  go_wp2_with fail
  refine (unhide HPO).mono ?_
  rintro e x3 ⟨jb, pb, S, L, A, n0, T, rfl, K, hs, ho, ht, hm, hTO, rfl, rfl, hA⟩
  obtain ⟨hn1, hn2', hg⟩ := unhide HQ
  have HIO := hide (iopen_ok K hg hs hm hTO (by decide) (by omega) hn1 (by omega))
  have HR := hide (And.intro ho (And.intro ht (And.intro hA (And.intro hm hs))))
  simp only [Int.cast_ofNat_Int] at HIO
  clear K hs ho ht hm hTO hA hn1 hn2' hg HPO
  go_wp2_with fail
  refine (unhide HIO).mono ?_
  rintro e x4 ⟨xb, rfl, _, S', eb, bm, k1, k2, k3, k4⟩
  obtain ⟨ho, ht, hA, hm, hs⟩ := unhide HR
  have HK := hide (show ∃ jb L A hn, A.length ≤ 1000 ∧ ISt w x4 b jb pb xb (fun _ => False) 30 n 4 false L A hn (fun _ => none) (fun _ => none) (fun _ => none) from ⟨jb, _, A, n0, hA, S', eb, bm, _, _, k1, hm, TOk.zero n, k2.trans ho, (by unfold TxII; rw [k3.1, ht.1]; intro p hp; cases hp), k3.2.trans ht.2⟩)
  clear k1 k2 k3 k4 ho ht hA hm hs HIO HR
  go_wp2
  refine bodyPost_ret (results_tmp4 rfl _ _ _) rfl ?_
  exact ⟨b, pb, xb, rfl, unhide HK⟩
end Go.Proofs.YtnfcnpolflfpfaaGreatDoor

namespace Go.Proofs.YtnfcnpolflfpfaaGreatDoor
open Go.RowKit Go.Maps Go.Sort Go.Shelf
theorem ISt.disk {w0 w : World} {b jb pb xb : Nat} {Y : Nat → Prop} {a n kp : Nat} {op : Bool} {L : List ByteArray} {A : List (Nat × Nat)} {hn : Nat} {Tw T U : Nat → En} (h : ISt w0 w b jb pb xb Y a n kp op L A hn Tw T U) : (∃ v, Dk w w0.heap.size b v (rs L A)) ∧ Sane (rs L A) := by
  obtain ⟨S, eb, bm, Mw, Mn, h1, h2, h2o, h3, h4⟩ := h
  obtain ⟨bw, bv, ov, K⟩ := h1.pk
  have e := h1.seen.rst.s
  have k1 := K.jk.dk
  have k2 := K.jk.sane
  rw [e] at k1 k2
  exact ⟨k1, k2⟩
/-- A pool that is opened on the same disk. -/
theorem ISt.again {w0 w : World} {b jb pb xb : Nat} {Y : Nat → Prop} {a n kp : Nat} {op : Bool} {L : List ByteArray} {A : List (Nat × Nat)} {hn : Nat} {Tw T U : Nat → En} (h : ISt w0 w b jb pb xb Y a n kp op L A hn Tw T U) (ha : A.length ≤ 10000000) (keep : Nat) (hk : keep ≤ 64) : Calls Tryz.prog 25 #[.pointer (some ⟨b, 0, none⟩), .int .i64 (keep : Int)] w (PoolI w0 b a n keep (fun L' A' T' => L' = L ∧ A' = A ∧ T' = Tw)) := by
  obtain ⟨⟨v, h1⟩, h2⟩ := h.disk
  obtain ⟨l1, l2, l3, l4, l5⟩ := h.lasts
  exact ipopen_rest h1 h.bel h.ety h2 hn l5 l2 l3 l4 ha keep hk l1 h.ok.2.2 _ ⟨rfl, rfl, rfl⟩
/-- An index that is opened on a pool that was opened so. -/
theorem PoolI.open {w0 : World} {b jb pb : Nat} {S : PS} {L : List ByteArray} {A : List (Nat × Nat)} {n0 : Nat} {T : Nat → En} {w : World} {a n kp : Nat} (K : PK w0 w b jb pb S (fun _ => False)) (hg : ETy w0) (hs : Seen S L A n0 L L) (ho : S.op = false) (ht : S.tx = [] ∧ S.keep = kp) (hm : IS L a n T) (hT : TOk n T) (h19 : 19 ≤ a) (h128 : a + ipgs n ≤ 128) (hn1 : 1 ≤ n) (hn2 : n ≤ 96) :
    Calls Tryz.prog 26 #[.pointer (some ⟨pb, 0, none⟩), .int .i64 (a : Int), .int .i64 (n : Int)] w fun e w' => ∃ xb, e = .returned (.tuple #[.pointer (some ⟨xb, 0, none⟩), .int .i64 0]) ∧ ISt w0 w' b jb pb xb (fun _ => False) a n kp false L A n0 T T T := by
  refine (iopen_ok K hg hs hm hT h19 h128 hn1 hn2).mono ?_
  rintro e w' ⟨xb, rfl, _, S', eb, bm, k1, k2, k3, k4⟩
  exact ⟨xb, rfl, S', eb, bm, _, _, k1, hm, hT, k2.trans ho, (by unfold TxII; rw [k3.1, ht.1]; intro p hp; cases hp), k3.2.trans ht.2⟩
theorem ISt.get {w0 w : World} {b jb pb xb : Nat} {Y : Nat → Prop} {a n kp : Nat} {op : Bool} {L : List ByteArray} {A : List (Nat × Nat)} {hn : Nat} {Tw T U : Nat → En} (h : ISt w0 w b jb pb xb Y a n kp op L A hn Tw T U) (hn24 : n ≤ 1024) (i : Nat) (hi : i < n) (d : ByteArray) (c : Nat) (hU : U i = some (d, c)) : Calls Tryz.prog 42 #[.pointer (some ⟨xb, 0, none⟩), .int .i64 (i : Int)] w fun e w' => e = .returned (.tuple #[.agg #[.int .i64 (i : Int), .string d, .int .i64 (c : Int)], .int .i64 0]) ∧ ISt w0 w' b jb pb xb Y a n kp op L A hn Tw T U ∧ Below w.heap.size w w' := by
  obtain ⟨eb, bm, hM⟩ := h.im
  refine (iget_some hM h.ok.2.1 hn24 i hi d c hU).mono ?_
  rintro e w' ⟨rfl, hb⟩
  exact ⟨rfl, h.below hb, hb⟩
theorem ISt.find {w0 w : World} {b jb pb xb : Nat} {Y : Nat → Prop} {a n kp : Nat} {op : Bool} {L : List ByteArray} {A : List (Nat × Nat)} {hn : Nat} {Tw T U : Nat → En} (h : ISt w0 w b jb pb xb Y a n kp op L A hn Tw T U) (i : Nat) (d : ByteArray) (c : Nat) (hU : U i = some (d, c)) : Calls Tryz.prog 41 #[.pointer (some ⟨xb, 0, none⟩), .string d] w fun e w' => e = .returned (.tuple #[.int .i64 (i : Int), .bool true]) ∧ ISt w0 w' b jb pb xb Y a n kp op L A hn Tw T U ∧ Below w.heap.size w w' := by
  obtain ⟨eb, bm, hM⟩ := h.im
  have hd := (h.ok.2.1.ok i d c hU).1
  refine (ifindx_gen hM d hd (i : Int) true (fun W hW => hW.hit hU hd)).mono ?_
  rintro e w' ⟨rfl, hb⟩
  exact ⟨rfl, h.below hb, hb⟩
set_option maxRecDepth 100000 in
set_option maxHeartbeats 2000000 in
theorem awake8_any (w : World) (hg : ETy w) : Calls Tryz.prog 8 #[] w fun e w' => e = .returned (.bool true) ∧ Below w.heap.size w w' := by
  have HF := hide (opened_any 7 (by decide) (by decide) w hg)
  simp only [Int.cast_ofNat_Int] at HF
  have HG := hide hg
  have HDG := hide (fun W => digest8_any 77 W)
  have hdz := digB_size 77
  generalize digB 77 = dd at *
  have HDZ := hide hdz
  have hse : (dd.toList == dd.toList) = true := by simp
  clear hg hdz
  go_enter Tryz.func8, Tryz.ntmps8
  go_wp2_with fail
  refine (unhide HF).mono ?_
  rintro e x0 ⟨b, pb, xb, rfl, jb, L, A, hn, hA, hS⟩
  have H0 := hide (And.intro hS hA)
  clear hS hA HF
  go_wp2_with fail
  refine (unhide HDG _).mono ?_
  rintro e x1 ⟨rfl, hb1⟩
  have HC := hide ((unhide H0).1.below hb1).begin
  clear hb1
  go_wp2_with fail
  refine (unhide HC).mono ?_
  rintro e x2 ⟨rfl, hS, _⟩
  clear HC
  have HC := hide (hS.put (by decide) 6 (by decide) dd (unhide HDZ) 2 (by decide) (by decide) (fun j c' h => by cases h))
  simp only [Int.cast_ofNat_Int] at HC
  clear hS
  go_wp2_with fail
  refine (unhide HC).mono ?_
  rintro e x3 ⟨rfl, hS, _⟩
  clear HC
  have HC := hide (hS.commit (by have := (unhide H0).2; omega))
  clear hS
  go_wp2_with fail
  refine (unhide HC).mono ?_
  rintro e x4 ⟨rfl, ⟨L', A', hA', hS⟩, _⟩
  clear HC
  have HC := hide (hS.find 6 dd 2 rfl)
  simp only [Int.cast_ofNat_Int] at HC
  clear hS
  go_wp2_with fail
  refine (unhide HC).mono ?_
  rintro e x5 ⟨rfl, hS, _⟩
  clear HC
  have HC := hide (hS.again (by have := (unhide H0).2; omega) 0 (by decide))
  simp only [Int.cast_ofNat_Int] at HC
  clear hS hA'
  go_wp2_with fail
  refine (unhide HC).mono ?_
  rintro e x6 ⟨jb2, pb2, S2, L2, A2, n02, T2, rfl, K, hs, ho, ht, hm, hTO, rfl, rfl, rfl⟩
  clear HC
  have HC := hide (PoolI.open K (unhide HG) hs ho ht hm hTO (by decide) (by decide) (by decide) (by decide))
  simp only [Int.cast_ofNat_Int] at HC
  clear K hs ho ht hm hTO
  go_wp2_with fail
  refine (unhide HC).mono ?_
  rintro e x7 ⟨xb2, rfl, hS⟩
  clear HC
  have HC := hide (hS.get (by decide) 6 (by decide) dd 2 rfl)
  simp only [Int.cast_ofNat_Int] at HC
  clear hS
  go_wp2_with fail
  refine (unhide HC).mono ?_
  rintro e x8 ⟨rfl, hS, _⟩
  have HB := hide hS.bel
  clear HC hS
  go_wp2
  go_ret
  exact ⟨rfl, (unhide HB).alloc (unhide HB).size _⟩
end Go.Proofs.YtnfcnpolflfpfaaGreatDoor
