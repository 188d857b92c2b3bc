import Derived.Test.YtjiigapphhekmaaGreatDoorMr36
namespace Go.Proofs.YtjiigapphhekmaaGreatDoor
open Go.RowKit Go.Maps Go.Sort Go.Shelf
set_option maxHeartbeats 400000 in
theorem pick7_any (c : Int) (n : Nat) (hn : 0 < n) (hc : I64 c) (N : Int) (hN : N = (n : Int)) (w : World) :
    Calls Tryz.prog 9 #[.int .i64 c, .int .i64 N] w fun e w' => e = .returned (.int .i64 (pickP c n : Int)) ∧ w' = w := by
  subst hN
  obtain ⟨hc1, hc2⟩ := hc
  have hz : ((n : Int) == 0) = false := by simp; omega
  by_cases h : c < 0
  · have e1 : (-(c + 1)).tmod (n : Int) = (-(c + 1)) % (n : Int) := Int.tmod_eq_emod_of_nonneg (by omega)
    have hp : 0 ≤ (-(c + 1)) % (n : Int) := Int.emod_nonneg _ (by omega)
    have hl : (-(c + 1)) % (n : Int) < (n : Int) := Int.emod_lt_of_pos _ (by omega)
    have HP := hide (show (pickP c n : Int) = (-(c + 1)) % (n : Int) by rw [pickP, if_pos h]; omega)
    go_enter Tryz.func9, Tryz.ntmps9
    go_wp2
    go_ret
    exact ⟨by rw [unhide HP]; rfl, rfl⟩
  · have e1 : c.tmod (n : Int) = c % (n : Int) := Int.tmod_eq_emod_of_nonneg (by omega)
    have hp : 0 ≤ c % (n : Int) := Int.emod_nonneg _ (by omega)
    have hl : c % (n : Int) < (n : Int) := Int.emod_lt_of_pos _ (by omega)
    have HP := hide (show (pickP c n : Int) = c % (n : Int) by rw [pickP, if_neg h]; omega)
    go_enter Tryz.func9, Tryz.ntmps9
    go_wp2
    go_ret
    exact ⟨by rw [unhide HP]; rfl, rfl⟩
/-- A pool that was opened on a disk with a map's pages. -/
def PoolM (w0 : World) (b a n kp : Nat) (R : List ByteArray → List (Nat × Nat) → (Nat → Bool) → Prop) (e : Ending) (w' : World) : Prop :=
  ∃ jb pb S L A n0 T, e = .returned (.tuple #[.pointer (some ⟨pb, 0, none⟩), .int .i64 0]) ∧ PK w0 w' b jb pb S (fun _ => False) ∧ Seen S L A n0 L L ∧ S.op = false ∧ (S.tx = [] ∧ S.keep = kp) ∧ MS L a n T ∧ R L A T
/-- A map that was opened on it. -/
def MapM (w0 : World) (b a n kp : Nat) (R : List ByteArray → List (Nat × Nat) → (Nat → Bool) → Prop) (pb mb : Nat) (w' : World) : Prop :=
  ∃ jb S L A n0 T, BG w0 w' b jb pb mb (fun x => x = mb) a n S L A n0 L L T ∧ S.op = false ∧ (S.tx = [] ∧ S.keep = kp) ∧ R L A T
set_option maxRecDepth 100000 in
set_option maxHeartbeats 1000000 in
theorem seen_gen {w0 w : World} {b a n kp : Nat} {R : List ByteArray → List (Nat × Nat) → (Nat → Bool) → Prop} (keep : Int) (hO : Calls Tryz.prog 23 #[.pointer (some ⟨b, 0, none⟩), .int .i64 keep] w (PoolM w0 b a n kp R)) (hg : ETy w0) (h19 : 19 ≤ a) (h128 : a + pgs n ≤ 128) (hn1 : 1 ≤ n) (hn2 : n ≤ 1024) :
    Calls Tryz.prog 34 #[.pointer (some ⟨b, 0, none⟩), .int .i64 keep, .int .i64 (a : Int), .int .i64 (n : Int)] w fun e w' => ∃ pb mb, e = .returned (.tuple #[.pointer (some ⟨pb, 0, none⟩), .pointer (some ⟨mb, 0, none⟩)]) ∧ MapM w0 b a n kp R pb mb w' := by
  have HO := hide hO
  have HQ := hide (And.intro hg (And.intro h19 (And.intro h128 (And.intro hn1 hn2))))
  clear hO hg h19 h128 hn1 hn2
  go_enter Tryz.func34, Tryz.ntmps34
  go_wp2_with fail
  refine (unhide HO).mono ?_
  rintro e x1 ⟨jb, pb, S, L, A, n0, T, rfl, K, hs, ho, ht, hm, hR⟩
  obtain ⟨hg, h19, h128, hn1, hn2⟩ := unhide HQ
  have HM := hide (mopen_ok K hg hs hm h19 h128 hn1 hn2)
  have HR := hide (And.intro ho (And.intro ht hR))
  clear K hs ho ht hm hR hg h19 h128 hn1 hn2 HO HQ
  go_wp2_with fail
  refine (unhide HM).mono ?_
  rintro e x2 ⟨mb, rfl, _, S', k1, k2, k3, _⟩
  have HK := hide (show MapM w0 b a n kp R pb mb x2 from ⟨jb, S', L, A, n0, T, k1.less (fun x q => .inr q) rfl, k2.trans (unhide HR).1, ⟨k3.1.trans (unhide HR).2.1.1, k3.2.trans (unhide HR).2.1.2⟩, (unhide HR).2.2⟩)
  clear k1 k2 k3 HM HR
  go_wp2
  go_ret2
  exact ⟨pb, mb, rfl, unhide HK⟩
/-- Open of a disk at rest whose head is clear. -/
theorem popen_rest {w0 w : World} {b : Nat} {v : DV} {L : List ByteArray} {A : List (Nat × Nat)} {a n : Nat} {T : Nat → Bool} (h : Dk w w0.heap.size b v (rs L A)) (h0 : Below w0.heap.size w0 w) (hg : ETy w) (hS : Sane (rs L A)) (n0 : Nat) (hn0 : n0 < 4294967296) (hL : L.length = 128) (hz : ∀ t ∈ L, t.size = 256) (hh : L.getD 1 ByteArray.empty = headB n0 []) (ha : A.length ≤ 10000000) (keep : Nat) (hk : keep ≤ 64) (hm : MS L a n T) (R : List ByteArray → List (Nat × Nat) → (Nat → Bool) → Prop) (hR : R L A T) :
    Calls Tryz.prog 23 #[.pointer (some ⟨b, 0, none⟩), .int .i64 (keep : Int)] w (PoolM w0 b a n keep R) := by
  have hO := open_clear h hg h0.size hS n0 hn0 (by omega) hh ha
  refine (popen_any w b keep hk (fun jp ag er w1 => er = 0 ∧ ∃ jb, jp = some ⟨jb, 0, none⟩ ∧ JK w0 w1 b jb (rs L A) ((n0 + 1) % 4294967296) false (fun _ => False)) (hO.mono (fun e w1 q => by
    obtain ⟨jb, rfl, hJ⟩ := q
    exact ⟨_, _, _, rfl, rfl, jb, rfl, JI.jk (JNew.ji h h0 hS hJ)⟩))).mono ?_
  rintro e w' ⟨jp, ag, er, w1, ⟨rfl, jb, rfl, hJ⟩, q | ⟨_, pb, bw, bv, rfl, hP⟩⟩
  · exact absurd rfl q.1
  · exact ⟨jb, pb, restP L A ((n0 + 1) % 4294967296) keep, L, A, n0, T, rfl, POk.pk hJ hk hP, ⟨⟨rfl, rfl, rfl, rfl⟩, hL, hz, hh, hn0, fun k _ _ => rfl, hL, hL, fun k _ _ => rfl, fun _ => rfl, fun p hp => by cases hp⟩, rfl, ⟨rfl, rfl⟩, hm, hR⟩
theorem pr_pair (a : Nat) (l : List ByteArray) (m : Nat) : (prN a l m).Pairwise (fun x y => x.1 ≠ y.1) := by
  unfold prN
  refine List.pairwise_map.2 ((List.nodup_range (n := m)).imp (fun h => ?_))
  simp only
  omega
theorem ld_at (a : Nat) (l : List ByteArray) (h : a + l.length ≤ 128) (k : Nat) (hk : k < l.length) : (ldL a l).getD (a + k) ByteArray.empty = l.getD k ByteArray.empty :=
  layP_in _ _ _ _ (pr_pair a l _) (List.mem_map.2 ⟨k, List.mem_range.2 hk, rfl⟩) (by rw [L0_len]; omega)
theorem ld_head (a : Nat) (l : List ByteArray) (h : 19 ≤ a) : (ldL a l).getD 1 ByteArray.empty = headB 0 [] := by
  unfold ldL
  rw [layP_skip _ _ _ (fun p hp => by
    obtain ⟨i, _, rfl⟩ := List.mem_map.1 hp
    simp only
    omega)]
  exact head0
theorem ld_len (a : Nat) (l : List ByteArray) : (ldL a l).length = 128 := by unfold ldL; rw [layP_len, L0_len]
theorem ld_size (a : Nat) (l : List ByteArray) (hz : ∀ i, i < l.length → (l.getD i ByteArray.empty).size = 256) : ∀ t ∈ ldL a l, t.size = 256 :=
  layP_size _ _ L0_size (fun p hp => by
    obtain ⟨i, hi, rfl⟩ := List.mem_map.1 hp
    exact hz i (List.mem_range.1 hi))
theorem ldA_len (a : Nat) (l : List ByteArray) : (ldA a l).length = l.length + 3 := by
  unfold ldA
  rw [List.length_append, List.length_append, prA_len]
  show 2 + l.length + 1 = _
  omega
theorem ms_zero (a n : Nat) (_hn : n ≤ 1024) (h : a + pgs n ≤ 128) : MS (ldL a (pgZ (pgs n))) a n (fun _ => false) := fun k hk => by
  refine ⟨zb, zb_size, ?_, fun j _ => by rw [zb_bit]; simp⟩
  rw [ld_at a _ (by rw [pgZ_len]; exact h) k (by rw [pgZ_len]; exact hk), pgZ_at _ _ hk]
/-- What freshAt leaves. -/
def FreshM (w : World) (a n keep : Nat) (b pb mb : Nat) (w' : World) : Prop :=
  MapM w b a n keep (fun L A T => L = ldL a (pgZ (pgs n)) ∧ T = (fun _ => false) ∧ A.length ≤ 100) pb mb w'
set_option maxRecDepth 100000 in
set_option maxHeartbeats 1000000 in
theorem freshAt_any (n : Nat) (hn1 : 1 ≤ n) (hn2 : n ≤ 1024) (keep : Nat) (hk : keep ≤ 64) (a : Nat) (h19 : 19 ≤ a) (h128 : a + pgs n ≤ 128) (w : World) (hg : ETy w) :
    Calls Tryz.prog 39 #[.int .i64 (n : Int), .int .i64 (keep : Int), .int .i64 (a : Int)] w fun e w' => ∃ b pb mb, e = .returned (.tuple #[.pointer (some ⟨b, 0, none⟩), .pointer (some ⟨pb, 0, none⟩), .pointer (some ⟨mb, 0, none⟩)]) ∧ FreshM w a n keep b pb mb w' := by
  have h4 := pgs_le hn2
  have HIN := hide (minitial_any n hn1 hn2 w)
  have HQ := hide (And.intro hn1 (And.intro hn2 (And.intro hk (And.intro h19 (And.intro h128 hg)))))
  clear hg hn1 hk h19 h128
  go_enter Tryz.func39, Tryz.ntmps39
  go_wp2_with fail
  refine (unhide HIN).mono ?_
  rintro e x1 ⟨v, rfl, hR, hB⟩
  obtain ⟨hn1, hn2', hk, h19, h128, hg⟩ := unhide HQ
  have hR' : x1.ownsRow w.heap.size 9 1 v (pgZ (pgs n)).length (strs (pgZ (pgs n))) := by rw [pgZ_len]; exact hR
  obtain ⟨pv, cv, rfl, hst⟩ := Strs.own hR'
  have hz : ∀ i, i < (pgZ (pgs n)).length → ((pgZ (pgs n)).getD i ByteArray.empty).size = 256 := fun i hi => by
    rw [pgZ_len] at hi
    rw [pgZ_at _ _ hi]
    exact pgT_size i (by omega) zb zb_size
  have HLD := hide (blaid_any pv cv (pgZ (pgs n)) a (pgZ (pgs n)).length rfl hz h19 (by rw [pgZ_len]; exact h128) x1 hst)
  have HB := hide (And.intro hB hz)
  clear hR hB hR' hst hz HIN
  obtain ⟨ll, hll⟩ : ∃ q, (pgZ (pgs n)).length = q := ⟨_, rfl⟩
  rw [hll] at HLD ⊢
  clear hll
  go_wp2_with fail
  refine (unhide HLD).mono ?_
  rintro e x2 ⟨b, rfl, dv, d1, d2, d3⟩
  obtain ⟨hB, hz⟩ := unhide HB
  have hb2 : Below w.heap.size w x2 := hB.trans (d2.mono hB.size)
  have HSE := hide (seen_gen (n := n) (a := a) (kp := keep) (keep : Int) (popen_rest (T := fun _ => false) (n := n) (a := a) (Dk.lower d1 hB.size) hb2 (hg.below hb2 hg.lt) d3 0 (by decide) (ld_len _ _) (ld_size a _ hz) (ld_head a _ h19) (by rw [ldA_len, pgZ_len]; omega) keep hk (ms_zero a n hn2 h128) (fun L A T => L = ldL a (pgZ (pgs n)) ∧ T = (fun _ => false) ∧ A.length ≤ 100) ⟨rfl, rfl, by rw [ldA_len, pgZ_len]; omega⟩) hg h19 h128 hn1 hn2)
  clear d1 d2 d3 hb2 hB hz hn1 hn2' hk h19 h128 hg HLD HB
  go_wp2_with fail
  refine (unhide HSE).mono ?_
  rintro e x3 ⟨pb, mb, rfl, hM⟩
  have HM := hide hM
  clear hM HSE
  go_wp2
  go_ret3
  exact ⟨b, pb, mb, rfl, unhide HM⟩
theorem fresh7_any (n : Nat) (hn1 : 1 ≤ n) (hn2 : n ≤ 1024) (keep : Nat) (hk : keep ≤ 64) (w : World) (hg : ETy w) :
    Calls Tryz.prog 11 #[.int .i64 (n : Int), .int .i64 (keep : Int)] w fun e w' => ∃ b pb mb, e = .returned (.tuple #[.pointer (some ⟨b, 0, none⟩), .pointer (some ⟨pb, 0, none⟩), .pointer (some ⟨mb, 0, none⟩)]) ∧ FreshM w 19 n keep b pb mb w' := by
  have HF := hide (freshAt_any n hn1 hn2 keep hk 19 (by decide) (by have := pgs_le hn2; omega) w hg)
  clear hn1 hn2 hk hg
  simp only [Int.cast_ofNat_Int] at HF
  go_enter Tryz.func11, Tryz.ntmps11
  go_wp2_with (go_at_call 39; refine (unhide HF).mono ?_; rintro e x3 ⟨b, pb, mb, rfl, hM⟩)
  go_ret3
  exact ⟨b, pb, mb, rfl, hM⟩
end Go.Proofs.YtjiigapphhekmaaGreatDoor

namespace Go.Proofs.YtjiigapphhekmaaGreatDoor
open Go.RowKit Go.Maps Go.Sort Go.Shelf
/-- A map over a pool whose disk lives: Tw is what was committed, T what the transaction sees. -/
def St (w0 w : World) (b jb pb mb : Nat) (X : Nat → Prop) (a n kp : Nat) (op : Bool) (L : List ByteArray) (A : List (Nat × Nat)) (hn : Nat) (Tw T : Nat → Bool) : Prop :=
  ∃ S Mw Mn, BG w0 w b jb pb mb X a n S L A hn Mw Mn T ∧ MS Mw a n Tw ∧ S.op = op ∧ (TxI S a n ∧ S.keep = kp)
theorem St.below {w0 w : World} {b jb pb mb : Nat} {X : Nat → Prop} {a n kp : Nat} {op : Bool} {L : List ByteArray} {A : List (Nat × Nat)} {hn : Nat} {Tw T : Nat → Bool} (h : St w0 w b jb pb mb X a n kp op L A hn Tw T) {w' : World} (hb : Below w.heap.size w w') : St w0 w' b jb pb mb X a n kp op L A hn Tw T := by
  obtain ⟨S, Mw, Mn, h1, h2, h3, h4⟩ := h
  exact ⟨S, Mw, Mn, h1.below hb, h2, h3, h4⟩
theorem St.more {w0 w : World} {b jb pb mb : Nat} {X : Nat → Prop} {a n kp : Nat} {op : Bool} {L : List ByteArray} {A : List (Nat × Nat)} {hn : Nat} {Tw T : Nat → Bool} (h : St w0 w b jb pb mb X a n kp op L A hn Tw T) {w' : World} {Y : Nat → Prop} (hb : Below w.heap.size w w') (hy : ∀ x, Y x → X x ∨ (w.heap.size ≤ x ∧ x < w'.heap.size)) (hm : Y mb) : St w0 w' b jb pb mb Y a n kp op L A hn Tw T := by
  obtain ⟨S, Mw, Mn, h1, h2, h3, h4⟩ := h
  exact ⟨S, Mw, Mn, h1.more hb hy hm, h2, h3, h4⟩
theorem St.less {w0 w : World} {b jb pb mb : Nat} {X : Nat → Prop} {a n kp : Nat} {op : Bool} {L : List ByteArray} {A : List (Nat × Nat)} {hn : Nat} {Tw T : Nat → Bool} (h : St w0 w b jb pb mb X a n kp op L A hn Tw T) {Y : Nat → Prop} (hy : ∀ x, Y x → X x) (hm : Y mb) : St w0 w b jb pb mb Y a n kp op L A hn Tw T := h.more (Below.refl _ _) (fun x q => .inl (hy x q)) hm
theorem St.bel {w0 w : World} {b jb pb mb : Nat} {X : Nat → Prop} {a n kp : Nat} {op : Bool} {L : List ByteArray} {A : List (Nat × Nat)} {hn : Nat} {Tw T : Nat → Bool} (h : St w0 w b jb pb mb X a n kp op L A hn Tw T) : Below w0.heap.size w0 w := by
  obtain ⟨S, Mw, Mn, h1, h2, h3, h4⟩ := h
  exact h1.pk.bel
theorem St.lt {w0 w : World} {b jb pb mb : Nat} {X : Nat → Prop} {a n kp : Nat} {op : Bool} {L : List ByteArray} {A : List (Nat × Nat)} {hn : Nat} {Tw T : Nat → Bool} (h : St w0 w b jb pb mb X a n kp op L A hn Tw T) (x : Nat) (hx : X x) : x < w.heap.size := by
  obtain ⟨S, Mw, Mn, h1, h2, h3, h4⟩ := h
  exact h1.pk.lt x hx
theorem St.xm {w0 w : World} {b jb pb mb : Nat} {X : Nat → Prop} {a n kp : Nat} {op : Bool} {L : List ByteArray} {A : List (Nat × Nat)} {hn : Nat} {Tw T : Nat → Bool} (h : St w0 w b jb pb mb X a n kp op L A hn Tw T) : X mb := by
  obtain ⟨S, Mw, Mn, h1, h2, h3, h4⟩ := h
  exact h1.xm
theorem St.ety {w0 w : World} {b jb pb mb : Nat} {X : Nat → Prop} {a n kp : Nat} {op : Bool} {L : List ByteArray} {A : List (Nat × Nat)} {hn : Nat} {Tw T : Nat → Bool} (h : St w0 w b jb pb mb X a n kp op L A hn Tw T) : ETy w := by
  obtain ⟨S, Mw, Mn, h1, h2, h3, h4⟩ := h
  exact h1.ety.below h1.pk.bel h1.ety.lt
theorem St.n2 {w0 w : World} {b jb pb mb : Nat} {X : Nat → Prop} {a n kp : Nat} {op : Bool} {L : List ByteArray} {A : List (Nat × Nat)} {hn : Nat} {Tw T : Nat → Bool} (h : St w0 w b jb pb mb X a n kp op L A hn Tw T) : n ≤ 1024 := by
  obtain ⟨S, Mw, Mn, h1, h2, h3, h4⟩ := h
  exact h1.n2
theorem St.kept {w0 w : World} {b jb pb mb : Nat} {X : Nat → Prop} {a n kp : Nat} {op : Bool} {L : List ByteArray} {A : List (Nat × Nat)} {hn : Nat} {Tw T : Nat → Bool} {S : PS} {Mw Mn : List ByteArray} {w' : World} (k : Kept w0 w b jb pb mb X a n S L A hn Mw Mn T w') (h2 : MS Mw a n Tw) (h3 : S.op = op) (h4 : TxI S a n ∧ S.keep = kp) : St w0 w' b jb pb mb X a n kp op L A hn Tw T ∧ Only (fun x => ¬ X x) w w' := by
  obtain ⟨S', k1, k2, k3, k4⟩ := k
  exact ⟨⟨S', Mw, Mn, k1, h2, k2.trans h3, ⟨by unfold TxI; rw [k3.1]; exact h4.1, k3.2.trans h4.2⟩⟩, k4⟩
theorem St.list {w0 w : World} {b jb pb mb : Nat} {X : Nat → Prop} {a n kp : Nat} {op : Bool} {L : List ByteArray} {A : List (Nat × Nat)} {hn : Nat} {Tw T : Nat → Bool} (h : St w0 w b jb pb mb X a n kp op L A hn Tw T) : Calls Tryz.prog 14 #[.pointer (some ⟨mb, 0, none⟩)] w fun e w' => ∃ v, e = .returned (.tuple #[v, .int .i64 0]) ∧ w'.ownsRow w.heap.size 3 1 v (lst T n).length ((lst T n).map (Value.int .i64)) ∧ St w0 w' b jb pb mb (Xv X v) a n kp op L A hn Tw T ∧ Only (fun x => ¬ X x) w w' := by
  obtain ⟨S, Mw, Mn, h1, h2, h3, h4⟩ := h
  refine (mlist_any h1).mono ?_
  rintro e w' ⟨v, rfl, k1, S', k2, k3, k4, k5⟩
  exact ⟨v, rfl, k1, ⟨S', Mw, Mn, k2, h2, k3.trans h3, ⟨by unfold TxI; rw [k4.1]; exact h4.1, k4.2.trans h4.2⟩⟩, k5⟩
theorem St.count {w0 w : World} {b jb pb mb : Nat} {X : Nat → Prop} {a n kp : Nat} {op : Bool} {L : List ByteArray} {A : List (Nat × Nat)} {hn : Nat} {Tw T : Nat → Bool} (h : St w0 w b jb pb mb X a n kp op L A hn Tw T) : Calls Tryz.prog 15 #[.pointer (some ⟨mb, 0, none⟩)] w fun e w' => e = .returned (.tuple #[.int .i64 ((lst T n).length : Int), .int .i64 0]) ∧ St w0 w' b jb pb mb X a n kp op L A hn Tw T ∧ Only (fun x => ¬ X x) w w' := by
  obtain ⟨S, Mw, Mn, h1, h2, h3, h4⟩ := h
  refine (mcount_any h1).mono ?_
  rintro e w' ⟨rfl, k⟩
  exact ⟨rfl, St.kept k h2 h3 h4⟩
theorem St.used {w0 w : World} {b jb pb mb : Nat} {X : Nat → Prop} {a n kp : Nat} {op : Bool} {L : List ByteArray} {A : List (Nat × Nat)} {hn : Nat} {Tw T : Nat → Bool} (h : St w0 w b jb pb mb X a n kp op L A hn Tw T) (i : Nat) (hi : i < n) : Calls Tryz.prog 16 #[.pointer (some ⟨mb, 0, none⟩), .int .i64 (i : Int)] w fun e w' => e = .returned (.tuple #[.bool (T i), .int .i64 0]) ∧ St w0 w' b jb pb mb X a n kp op L A hn Tw T ∧ Only (fun x => ¬ X x) w w' := by
  obtain ⟨S, Mw, Mn, h1, h2, h3, h4⟩ := h
  refine (mused_any h1 i hi).mono ?_
  rintro e w' ⟨rfl, k⟩
  exact ⟨rfl, St.kept k h2 h3 h4⟩
theorem St.begin {w0 w : World} {b jb pb mb : Nat} {X : Nat → Prop} {a n kp : Nat} {L : List ByteArray} {A : List (Nat × Nat)} {hn : Nat} {Tw T : Nat → Bool} (h : St w0 w b jb pb mb X a n kp false L A hn Tw T) : Calls Tryz.prog 12 #[.pointer (some ⟨pb, 0, none⟩)] w fun e w' => e = .returned (.int .i64 0) ∧ St w0 w' b jb pb mb X a n kp true L A hn Tw T ∧ Only (fun x => ¬ X x) w w' := by
  obtain ⟨S, Mw, Mn, h1, h2, h3, h4⟩ := h
  obtain ⟨s1, s2, s3, s4⟩ := h1.seen.begin
  rw [h3] at s1
  have hc := pbegin_any h1.pk
  rw [show beginE S = 0 from s1] at hc
  refine hc.mono ?_
  rintro e w' ⟨rfl, K, hO⟩
  exact ⟨rfl, ⟨_, Mw, Mn, h1.next K hO s2 h1.ms, h2, s3, ⟨by unfold TxI; rw [s4]; exact h4.1, by rw [← h4.2]; unfold beginS; split <;> (try split) <;> rfl⟩⟩, hO⟩
theorem St.alloc_none {w0 w : World} {b jb pb mb : Nat} {X : Nat → Prop} {a n kp : Nat} {L : List ByteArray} {A : List (Nat × Nat)} {hn : Nat} {Tw T : Nat → Bool} (h : St w0 w b jb pb mb X a n kp false L A hn Tw T) : Calls Tryz.prog 17 #[.pointer (some ⟨mb, 0, none⟩)] w fun e w' => e = .returned (.tuple #[.int .i64 0, .int .i64 61]) ∧ St w0 w' b jb pb mb X a n kp false L A hn Tw T ∧ Only (fun x => ¬ X x) w w' := by
  obtain ⟨S, Mw, Mn, h1, h2, h3, h4⟩ := h
  refine (malloc_none h1 h3).mono ?_
  rintro e w' ⟨rfl, k⟩
  exact ⟨rfl, St.kept k h2 h3 h4⟩
theorem St.alloc_full {w0 w : World} {b jb pb mb : Nat} {X : Nat → Prop} {a n kp : Nat} {L : List ByteArray} {A : List (Nat × Nat)} {hn : Nat} {Tw T : Nat → Bool} (h : St w0 w b jb pb mb X a n kp true L A hn Tw T) (hall : ∀ i, i < n → T i = true) : Calls Tryz.prog 17 #[.pointer (some ⟨mb, 0, none⟩)] w fun e w' => e = .returned (.tuple #[.int .i64 0, .int .i64 70]) ∧ St w0 w' b jb pb mb X a n kp true L A hn Tw T ∧ Only (fun x => ¬ X x) w w' := by
  obtain ⟨S, Mw, Mn, h1, h2, h3, h4⟩ := h
  refine (malloc_full h1 h3 hall).mono ?_
  rintro e w' ⟨rfl, k⟩
  exact ⟨rfl, St.kept k h2 h3 h4⟩
theorem St.alloc {w0 w : World} {b jb pb mb : Nat} {X : Nat → Prop} {a n kp : Nat} {L : List ByteArray} {A : List (Nat × Nat)} {hn : Nat} {Tw T : Nat → Bool} (h : St w0 w b jb pb mb X a n kp true L A hn Tw T) (p : Nat) (hl : Lea T n p) : Calls Tryz.prog 17 #[.pointer (some ⟨mb, 0, none⟩)] w fun e w' => e = .returned (.tuple #[.int .i64 (p : Int), .int .i64 0]) ∧ St w0 w' b jb pb mb X a n kp true L A hn Tw (flp T p) ∧ Only (fun x => ¬ X x) w w' := by
  obtain ⟨S, Mw, Mn, h1, h2, h3, h4⟩ := h
  refine (malloc_ok h1 h3 p hl (h1.room h4.1 _)).mono ?_
  rintro e w' ⟨rfl, k⟩
  obtain ⟨S', Mn', k1, k2, k3, k5, k4⟩ := k.txi h4.1 hl.1
  exact ⟨rfl, ⟨S', Mw, Mn', k1, h2, k2, k3, k5.trans h4.2⟩, k4⟩
theorem St.free_none {w0 w : World} {b jb pb mb : Nat} {X : Nat → Prop} {a n kp : Nat} {L : List ByteArray} {A : List (Nat × Nat)} {hn : Nat} {Tw T : Nat → Bool} (h : St w0 w b jb pb mb X a n kp false L A hn Tw T) (i : Nat) (hi : i < n) : Calls Tryz.prog 18 #[.pointer (some ⟨mb, 0, none⟩), .int .i64 (i : Int)] w fun e w' => e = .returned (.int .i64 61) ∧ St w0 w' b jb pb mb X a n kp false L A hn Tw T ∧ Only (fun x => ¬ X x) w w' := by
  obtain ⟨S, Mw, Mn, h1, h2, h3, h4⟩ := h
  refine (mfree_none h1 h3 i hi).mono ?_
  rintro e w' ⟨rfl, k⟩
  exact ⟨rfl, St.kept k h2 h3 h4⟩
theorem St.free_free {w0 w : World} {b jb pb mb : Nat} {X : Nat → Prop} {a n kp : Nat} {L : List ByteArray} {A : List (Nat × Nat)} {hn : Nat} {Tw T : Nat → Bool} (h : St w0 w b jb pb mb X a n kp true L A hn Tw T) (i : Nat) (hi : i < n) (hT : T i = false) : Calls Tryz.prog 18 #[.pointer (some ⟨mb, 0, none⟩), .int .i64 (i : Int)] w fun e w' => e = .returned (.int .i64 71) ∧ St w0 w' b jb pb mb X a n kp true L A hn Tw T ∧ Only (fun x => ¬ X x) w w' := by
  obtain ⟨S, Mw, Mn, h1, h2, h3, h4⟩ := h
  refine (mfree_free h1 h3 i hi hT).mono ?_
  rintro e w' ⟨rfl, k⟩
  exact ⟨rfl, St.kept k h2 h3 h4⟩
theorem St.free {w0 w : World} {b jb pb mb : Nat} {X : Nat → Prop} {a n kp : Nat} {L : List ByteArray} {A : List (Nat × Nat)} {hn : Nat} {Tw T : Nat → Bool} (h : St w0 w b jb pb mb X a n kp true L A hn Tw T) (i : Nat) (hi : i < n) (hT : T i = true) : Calls Tryz.prog 18 #[.pointer (some ⟨mb, 0, none⟩), .int .i64 (i : Int)] w fun e w' => e = .returned (.int .i64 0) ∧ St w0 w' b jb pb mb X a n kp true L A hn Tw (flp T i) ∧ Only (fun x => ¬ X x) w w' := by
  obtain ⟨S, Mw, Mn, h1, h2, h3, h4⟩ := h
  refine (mfree_ok h1 h3 i hi hT (h1.room h4.1 _)).mono ?_
  rintro e w' ⟨rfl, k⟩
  obtain ⟨S', Mn', k1, k2, k3, k5, k4⟩ := k.txi h4.1 hi
  exact ⟨rfl, ⟨S', Mw, Mn', k1, h2, k2, k3, k5.trans h4.2⟩, k4⟩
/-- The transaction is committed. -/
theorem St.commit {w0 w : World} {b jb pb mb : Nat} {X : Nat → Prop} {a n kp : Nat} {L : List ByteArray} {A : List (Nat × Nat)} {hn : Nat} {Tw T : Nat → Bool} (h : St w0 w b jb pb mb X a n kp true L A hn Tw T) (ha : A.length ≤ 1000000) : Calls Tryz.prog 32 #[.pointer (some ⟨pb, 0, none⟩)] w fun e w' => e = .returned (.int .i64 0) ∧ (∃ L' A', A'.length ≤ A.length + 38 ∧ St w0 w' b jb pb mb X a n kp false L' A' ((hn + 1) % 4294967296) T T) ∧ Only (fun x => ¬ X x) w w' := by
  obtain ⟨S, Mw, Mn, h1, h2, h3, h4⟩ := h
  obtain ⟨s1, s2, s3⟩ := h1.seen.commit h3 h1.srt h1.t16 h1.tok
  have hc := pcommit_any h1.pk (by rw [h1.seen.rst.nx]; exact Nat.mod_lt _ (by decide)) (by rw [h1.seen.rst.s]; exact Nat.zero_le _) (by rw [h1.seen.rst.s]; show A.length ≤ _; omega)
  rw [s1] at hc
  refine hc.mono ?_
  rintro e w' ⟨rfl, K, hO⟩
  refine ⟨rfl, ⟨_, _, ?_, _, Mn, Mn, h1.next K hO s2 h1.ms, h1.ms, s3, ?_, ?_⟩, hO⟩
  · rw [List.length_append, comA_len _ h1.t16]
    exact Nat.le_refl _
  · unfold TxI
    rw [s2.cl s3]
    intro p hp
    cases hp
  · rw [← h4.2]
    exact (commit_rest h1.seen.rst h3 h1.seen.len (tx_good h1.srt h1.t16 h1.tok)).2.2.2.2.1
/-- The transaction is aborted. -/
theorem St.abort {w0 w : World} {b jb pb mb : Nat} {X : Nat → Prop} {a n kp : Nat} {L : List ByteArray} {A : List (Nat × Nat)} {hn : Nat} {Tw T : Nat → Bool} (h : St w0 w b jb pb mb X a n kp true L A hn Tw T) : Calls Tryz.prog 33 #[.pointer (some ⟨pb, 0, none⟩)] w fun e w' => e = .returned (.int .i64 0) ∧ St w0 w' b jb pb mb X a n kp false L A hn Tw Tw ∧ Only (fun x => ¬ X x) w w' := by
  obtain ⟨S, Mw, Mn, h1, h2, h3, h4⟩ := h
  have hc := pabort_any h1.pk
  rw [show abortE S = 0 from by simp [abortE, h3], show abortS S = endS S from by simp [abortS, h3]] at hc
  refine hc.mono ?_
  rintro e w' ⟨rfl, K, hO⟩
  refine ⟨rfl, ⟨_, Mw, Mw, h1.next K hO (h1.seen.back (endS S) (end_rest h1.seen.rst) rfl h1.seen.hok) h2, h2, rfl, fun p hp => (by cases hp), h4.2⟩, hO⟩
/-- Without a transaction the two sets are one. -/
theorem St.same {w0 w : World} {b jb pb mb : Nat} {X : Nat → Prop} {a n kp : Nat} {L : List ByteArray} {A : List (Nat × Nat)} {hn : Nat} {Tw T : Nat → Bool} (h : St w0 w b jb pb mb X a n kp false L A hn Tw T) (i : Nat) (hi : i < n) : Tw i = T i := by
  obtain ⟨S, Mw, Mn, h1, h2, h3, h4⟩ := h
  have ht := h1.seen.cl h3
  refine MS.one h2 (h1.ms.over (fun k hk => ?_)) h1.n2 i hi
  have h5 := h1.hi
  have h6 := h1.lo
  rw [h1.seen.now (a + k) (by omega) (by omega), ht]
  rfl
/-- What lasts on the disk beneath. -/
theorem St.lasts {w0 w : World} {b jb pb mb : Nat} {X : Nat → Prop} {a n kp : Nat} {op : Bool} {L : List ByteArray} {A : List (Nat × Nat)} {hn : Nat} {Tw T : Nat → Bool} (h : St w0 w b jb pb mb X a n kp op L A hn Tw T) : MS L a n Tw ∧ L.length = 128 ∧ (∀ t ∈ L, t.size = 256) ∧ L.getD 1 ByteArray.empty = headB hn [] ∧ hn < 4294967296 := by
  obtain ⟨S, Mw, Mn, h1, h2, h3, h4⟩ := h
  have h5 := h1.hi
  have h6 := h1.lo
  refine ⟨h2.over (fun k hk => h1.seen.was (a + k) (by omega) (by rw [h1.seen.len]; omega)), h1.seen.len, h1.seen.siz, h1.seen.hd, h1.seen.hn⟩
theorem MapM.st {w0 w : World} {b a n kp pb mb : Nat} {R : List ByteArray → List (Nat × Nat) → (Nat → Bool) → Prop} (h : MapM w0 b a n kp R pb mb w) : ∃ jb L A hn T, St w0 w b jb pb mb (fun x => x = mb) a n kp false L A hn T T ∧ R L A T := by
  obtain ⟨jb, S, L, A, n0, T, h1, h2, h3, h4⟩ := h
  exact ⟨jb, L, A, n0, T, ⟨S, L, L, h1, h1.ms, h2, (by unfold TxI; rw [h3.1]; intro p hp; cases hp), h3.2⟩, h4⟩
end Go.Proofs.YtjiigapphhekmaaGreatDoor

namespace Go.Proofs.YtjiigapphhekmaaGreatDoor
open Go.RowKit Go.Maps Go.Sort Go.Shelf
def T0 : Nat → Bool := fun _ => false
theorem kn1 : Lea T0 10 0 := ⟨by decide, rfl, fun i hi => absurd hi (by omega)⟩
theorem kn2 : Lea (flp T0 0) 10 1 := by
  refine ⟨by decide, rfl, fun i hi => ?_⟩
  have h : i = 0 := by omega
  subst h
  rfl
theorem kn3 : flp (flp T0 0) 1 0 = true := rfl
theorem kn4 : Lea (flp (flp (flp T0 0) 1) 0) 10 0 := ⟨by decide, rfl, fun i hi => absurd hi (by omega)⟩
theorem kn5 : (lst (flp (flp (flp (flp T0 0) 1) 0) 0) 10).length = 2 := by decide
set_option maxRecDepth 100000 in
set_option maxHeartbeats 2000000 in
theorem known7_any (w : World) (hg : ETy w) : Calls Tryz.prog 10 #[] w fun e w' => e = .returned (.bool true) ∧ Below w.heap.size w w' := by
  have HF := hide (fresh7_any 10 (by decide) (by decide) 4 (by decide) w hg)
  simp only [Int.cast_ofNat_Int] at HF
  clear hg
  go_enter Tryz.func10, Tryz.ntmps10
  go_wp2_with fail
  refine (unhide HF).mono ?_
  rintro e x0 ⟨b, pb, mb, rfl, hM⟩
  obtain ⟨jb, L, A, hn, T, hS, _, hT, _⟩ := hM.st
  subst hT
  have H0 := hide (show St w x0 b jb pb mb (fun x => x = mb) 19 10 4 false L A hn T0 T0 from hS)
  clear hM hS HF
  have HC := hide (unhide H0).alloc_none
  clear H0
  go_wp2_with fail
  refine (unhide HC).mono ?_
  rintro e x1 ⟨rfl, hS, _⟩
  clear HC
  have HC := hide (hS.begin)
  clear hS
  go_wp2_with fail
  refine (unhide HC).mono ?_
  rintro e x2 ⟨rfl, hS, _⟩
  clear HC
  have HC := hide (hS.alloc 0 kn1)
  clear hS
  go_wp2_with fail
  refine (unhide HC).mono ?_
  rintro e x3 ⟨rfl, hS, _⟩
  clear HC
  have HC := hide (hS.alloc 1 kn2)
  clear hS
  go_wp2_with fail
  refine (unhide HC).mono ?_
  rintro e x4 ⟨rfl, hS, _⟩
  clear HC
  have HC := hide (hS.free 0 (by decide) kn3)
  clear hS
  go_wp2_with fail
  refine (unhide HC).mono ?_
  rintro e x5 ⟨rfl, hS, _⟩
  clear HC
  have HC := hide (hS.alloc 0 kn4)
  clear hS
  go_wp2_with fail
  refine (unhide HC).mono ?_
  rintro e x6 ⟨rfl, hS, _⟩
  clear HC
  have HC := hide (hS.count)
  rw [kn5] at HC
  clear hS
  simp only [Int.cast_ofNat_Int] at HC
  go_wp2_with fail
  refine (unhide HC).mono ?_
  rintro e x7 ⟨rfl, hS, _⟩
  have HB := hide hS.bel
  clear HC hS
  go_wp2
  go_ret
  exact ⟨rfl, unhide HB⟩
/-- Acts within a transaction. -/
def DrI (w0 w : World) (b jb pb mb : Nat) (X : Nat → Prop) (a n kp : Nat) (L : List ByteArray) (A : List (Nat × Nat)) (hn : Nat) (Tw : Nat → Bool) (wr : World) : Prop :=
  ∃ T, St w0 wr b jb pb mb X a n kp true L A hn Tw T ∧ Only (fun x => ¬ X x) w wr
theorem Ints.fence {w w' : World} {p : Option Addr} {l : List Int} {X : Nat → Prop} (h : Ints w p l) (ho : Only (fun x => ¬ X x) w w') (hp : ∀ g o, p = some ⟨g, o, none⟩ → X g ∨ l = []) : Ints w' p l := fun j hj => by
  obtain ⟨g, o, e, hg, hc⟩ := h j hj
  refine ⟨g, o, e, Nat.lt_of_lt_of_le hg ho.size, ?_⟩
  rcases hp g o e with q | q
  · exact (World.cell?_of_block (a := ⟨g, o + j, none⟩) (ho.2 g hg (fun r => r q))).trans hc
  · subst q; cases hj
set_option maxRecDepth 100000 in
set_option maxHeartbeats 4000000 in
theorem drawn_any {w0 w : World} {b jb pb mb : Nat} {X : Nat → Prop} {a n kp : Nat} {L : List ByteArray} {A : List (Nat × Nat)} {hn : Nat} {Tw T : Nat → Bool} (h : St w0 w b jb pb mb X a n kp true L A hn Tw T) (p : Option Addr) (c : Nat) (l : List Int) (m : Nat) (hm : m = l.length) (hz : m ≤ 9223372036854775807) (hl : Ints w0 p l) (hw : ∀ i, I64 (l.getD i 0)) :
    Calls Tryz.prog 13 #[.pointer (some ⟨mb, 0, none⟩), .slice p m c] w fun e w' => e = .returned (.tuple #[]) ∧ DrI w0 w b jb pb mb X a n kp L A hn Tw w' := by
  have X0 := hide (show DrI w0 w b jb pb mb X a n kp L A hn Tw w from ⟨T, h, Only.refl _ _⟩)
  have HL := hide (And.intro hm (And.intro hl hw))
  have hn2 := h.n2
  clear h hm hl hw
  go_enter Tryz.func13, Tryz.ntmps13
  go_wp2
  go_loopw [4] (fun i wr => ∃ k : Nat, k ≤ m ∧ i = .int .i64 (k : Int) ∧ DrI w0 w b jb pb mb X a n kp L A hn Tw wr) (fun i _ => m - (intOf i).toNat)
  case atStart => exact ⟨0, by omega, rfl, unhide X0⟩
  case round =>
    obtain ⟨k, hk, rfl, T1, hS, hO⟩ := hrel
    obtain ⟨wo, rfl⟩ : ∃ wo, wo = wr := ⟨_, rfl⟩
    clear X0
    by_cases hkn : k < m ∧ k < 200
    · have hkn' : (k : Int) < (m : Int) := by omega
      have hdk : decide ((k : Int) < (m : Int)) = true := decide_eq_true hkn'
      have hdk2 : decide ((k : Int) < 200) = true := decide_eq_true (by omega)
      have hk0 : (0 : Int) ≤ (k : Int) := by omega
      obtain ⟨hm, hl, hw⟩ := unhide HL
      obtain ⟨g, oo, rfl, hgl, cg⟩ := hl k (by omega)
      have cg' : wo.cell? ⟨g, oo + k, none⟩ = some (.int .i64 (l.getD k 0)) := by rw [hS.bel.cell hgl]; exact cg
      have hzz := hw k
      generalize l.getD k 0 = z at *
      have HPK := hide (fun W => pick7_any z 3 (by decide) hzz 3 rfl W)
      have HS := hide hS
      have HO := hide hO
      have hp3 := pickP_lt z 3 (by decide)
      obtain ⟨q, hq⟩ : ∃ q, pickP z 3 = q := ⟨_, rfl⟩
      rw [hq] at HPK hp3
      clear hS hO cg hm hl hw hq
      by_cases h0 : 0 < q
      · have hd0 : decide ((0 : Int) < (q : Int)) = true := decide_eq_true (by omega)
        rcases lea_or T1 n with ⟨pp, hlea⟩ | hall
        · have HAL := hide ((unhide HS).alloc pp hlea)
          clear HS hlea hzz
          go_wp2_with (first | (go_at_call 9; refine (unhide HPK _).mono ?_; rintro e w' ⟨rfl, hw'⟩; subst w') | (go_at_call 17; refine (unhide HAL).mono ?_; rintro e y1 ⟨rfl, hS1, hO1⟩))
          go_roundw
          case rel => exact ⟨k + 1, by omega, by go_num, _, hS1, (unhide HO).trans hO1 (fun _ _ q => q)⟩
          case measure => simp [intOf]; omega
        · have HAL := hide ((unhide HS).alloc_full hall)
          clear HS hall hzz
          go_wp2_with (first | (go_at_call 9; refine (unhide HPK _).mono ?_; rintro e w' ⟨rfl, hw'⟩; subst w') | (go_at_call 17; refine (unhide HAL).mono ?_; rintro e y1 ⟨rfl, hS1, hO1⟩))
          go_roundw
          case rel => exact ⟨k + 1, by omega, by go_num, _, hS1, (unhide HO).trans hO1 (fun _ _ q => q)⟩
          case measure => simp [intOf]; omega
      · have hd0 : decide ((0 : Int) < (q : Int)) = false := decide_eq_false (by omega)
        have HLS := hide (unhide HS).list
        have HBL := hide (unhide HS).bel
        go_wp2_with (go_at_call 9; refine (unhide HPK _).mono ?_; rintro e w' ⟨rfl, hw'⟩; subst w')
        refine (unhide HLS).mono ?_
        rintro e y1 ⟨v, rfl, hr, hS1, hO1⟩
        obtain ⟨pv, cv, rfl, hcv⟩ := row_form hr
        have HX := hide (unhide HS).xm
        have hll := lst_len_le T1 n
        by_cases hne : 0 < (lst T1 n).length
        · have hd1 : decide ((0 : Int) < ((lst T1 n).length : Int)) = true := decide_eq_true (by omega)
          have hz3 : I64 (z.tdiv 3) := by
            obtain ⟨a1, a2⟩ := hzz
            constructor
            · rcases Int.lt_or_le z 0 with r | r
              · have e : z.tdiv 3 = -((-z).tdiv 3) := by rw [Int.neg_tdiv, Int.neg_neg]
                rw [e, Int.tdiv_eq_ediv_of_nonneg (by omega)]; omega
              · rw [Int.tdiv_eq_ediv_of_nonneg r]; omega
            · rcases Int.lt_or_le z 0 with r | r
              · have e : z.tdiv 3 = -((-z).tdiv 3) := by rw [Int.neg_tdiv, Int.neg_neg]
                rw [e, Int.tdiv_eq_ediv_of_nonneg (by omega)]; omega
              · rw [Int.tdiv_eq_ediv_of_nonneg r]; omega
          have HP2 := hide (fun W => pick7_any (z.tdiv 3) (lst T1 n).length hne hz3 ((lst T1 n).length : Int) rfl W)
          have hpl := pickP_lt (z.tdiv 3) (lst T1 n).length hne
          obtain ⟨qq, hqq⟩ : ∃ r, pickP (z.tdiv 3) (lst T1 n).length = r := ⟨_, rfl⟩
          rw [hqq] at HP2 hpl
          obtain ⟨ii, hii, hin, hTi⟩ := mem_lst.1 (show (lst T1 n).getD qq 0 ∈ lst T1 n from by rw [List.getD_eq_getElem?_getD, List.getElem?_eq_getElem hpl]; exact List.getElem_mem hpl)
          obtain ⟨g2, o2, e2, hg2, c2⟩ := ints_own hr qq hpl
          rw [hii] at c2
          subst e2
          have HFR := hide (hS1.less (Y := X) (fun x q => .inl q) (unhide HX) |>.free ii hin hTi)
          have HO1 := hide hO1
          have hw3 : IntKind.i64.wrap (z.tdiv 3) = z.tdiv 3 := wrapI_eq _ hz3.1 hz3.2
          have cz : y1.cell? ⟨g, oo + k, none⟩ = some (.int .i64 z) := by
            have hB1 : Below w0.heap.size w0 y1 := hS1.bel
            rw [hB1.cell hgl, ← (unhide HBL).cell hgl]; exact cg'
          have hq0 : (0 : Int) ≤ (qq : Int) := by omega
          have hq1 : (qq : Int) < ((lst T1 n).length : Int) := by omega
          clear hr hS1 hO1 hTi hii hqq hcv HLS HS hz3 hzz cg' hpl
          generalize (lst T1 n).length = ll at *
          obtain ⟨z3, hz3e⟩ : ∃ r, z.tdiv 3 = r := ⟨_, rfl⟩
          rw [hz3e] at HP2 hw3
          go_wp2_with (first | (go_at_call 9; refine (unhide HP2 _).mono ?_; rintro e w' ⟨rfl, hw'⟩; subst w') | (go_at_call 18; refine (unhide HFR).mono ?_; rintro e y2 ⟨rfl, hS2, hO2⟩))
          go_roundw
          case rel => exact ⟨k + 1, by omega, by go_num, _, hS2, ((unhide HO).trans (unhide HO1) (fun _ _ q => q)).trans hO2 (fun _ _ q => q)⟩
          case measure => simp [intOf]; omega
        · have hl0 : (lst T1 n).length = 0 := by omega
          have HR := hide (And.intro (hS1.less (Y := X) (fun x q => .inl q) (unhide HX)) ((unhide HO).trans hO1 (fun _ _ q => q)))
          clear hr hS1 hO1 hcv HLS HS hzz cg' hne hll
          rw [hl0]
          clear hl0
          go_wp2
          go_roundw
          case rel => exact ⟨k + 1, by omega, by go_num, T1, (unhide HR).1, (unhide HR).2⟩
          case measure => simp [intOf]; omega
    · have HR := hide (show DrI w0 w b jb pb mb X a n kp L A hn Tw wo from ⟨T1, hS, hO⟩)
      clear hS hO
      by_cases hkm : k < m
      · have hdk : decide ((k : Int) < (m : Int)) = true := decide_eq_true (by omega)
        have hdk2 : decide ((k : Int) < 200) = false := decide_eq_false (by omega)
        go_wp2
        go_end0
        exact ⟨rfl, unhide HR⟩
      · have hdk : decide ((k : Int) < (m : Int)) = false := decide_eq_false (by omega)
        go_wp2
        go_end0
        exact ⟨rfl, unhide HR⟩
end Go.Proofs.YtjiigapphhekmaaGreatDoor
