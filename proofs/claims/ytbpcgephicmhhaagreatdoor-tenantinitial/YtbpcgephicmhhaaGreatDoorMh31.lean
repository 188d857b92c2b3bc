import Derived.Test.YtbpcgephicmhhaaGreatDoorMh30
import Derived.Test.YtbpcgephicmhhaaGreatDoorMh22
namespace Go.Proofs.YtbpcgephicmhhaaGreatDoor
open Go.RowKit Go.Maps Go.Sort Go.Shelf
set_option maxRecDepth 100000
/-- What is laid down, from sector a on: the first m of l. -/
def prN (a : Nat) (l : List ByteArray) (m : Nat) : List (Nat × ByteArray) := (List.range m).map fun i => (a + i, l.getD i ByteArray.empty)
theorem prN_succ (a : Nat) (l : List ByteArray) (m : Nat) : prN a l (m + 1) = prN a l m ++ [(a + m, l.getD m ByteArray.empty)] := by simp [prN, List.range_succ]
theorem prN_len (a : Nat) (l : List ByteArray) (m : Nat) : (prN a l m).length = m := by simp [prN]
def prA (a m : Nat) : List (Nat × Nat) := (List.range m).map fun i => (0, a + i)
theorem prA_len (a m : Nat) : (prA a m).length = m := by simp [prA]
theorem prA_succ (a m : Nat) : prA a (m + 1) = prA a m ++ [(0, a + m)] := by simp [prA, List.range_succ]
def layS (a : Nat) (l : List ByteArray) (m : Nat) : DSt := ⟨L0, layP L0 (prN a l m), prN a l m, A0 ++ prA a m, 0, false⟩
/-- The disk behind laid. -/
def ldL (a : Nat) (l : List ByteArray) : List ByteArray := layP L0 (prN a l l.length)
def ldA (a : Nat) (l : List ByteArray) : List (Nat × Nat) := A0 ++ prA a l.length ++ [(1, 0)]
theorem layS_write (a : Nat) (l : List ByteArray) (m : Nat) (h : a + m < 128) (ht : (l.getD m ByteArray.empty).size = 256) : writeE (layS a l m) ((a + m : Nat) : Int) (l.getD m ByteArray.empty) = 0 ∧ writeS (layS a l m) ((a + m : Nat) : Int) (l.getD m ByteArray.empty) = layS a l (m + 1) := by
  obtain ⟨h1, h2⟩ := writeA (s := layS a l m) ⟨rfl, rfl⟩ (a + m) (by show a + m < L0.length; rw [L0_len]; exact h) _ ht
  refine ⟨h1, ?_⟩
  rw [h2]
  unfold layS
  simp only
  rw [prN_succ, prA_succ, layP_app, List.append_assoc]
  rfl
theorem layS_flush (a : Nat) (l : List ByteArray) : flushE (layS a l l.length) = 0 ∧ flushS (layS a l l.length) = rs (ldL a l) (ldA a l) := by
  obtain ⟨h1, h2⟩ := flushA (s := layS a l l.length) ⟨rfl, rfl⟩
  exact ⟨h1, by rw [h2]; rfl⟩

theorem pr_pair (a : Nat) (l : List ByteArray) (m : Nat) : (prN a l m).Pairwise (fun x y => x.1 ≠ y.1) := by
  unfold prN
  refine List.pairwise_map.2 ((List.nodup_range (n := m)).imp (fun h => ?_))
  simp only
  omega
theorem ld_at (a : Nat) (l : List ByteArray) (h : a + l.length ≤ 128) (k : Nat) (hk : k < l.length) : (ldL a l).getD (a + k) ByteArray.empty = l.getD k ByteArray.empty :=
  layP_in _ _ _ _ (pr_pair a l _) (List.mem_map.2 ⟨k, List.mem_range.2 hk, rfl⟩) (by rw [L0_len]; omega)
theorem ld_head (a : Nat) (l : List ByteArray) (h : 19 ≤ a) : (ldL a l).getD 1 ByteArray.empty = headB 0 [] := by
  unfold ldL
  rw [layP_skip _ _ _ (fun p hp => by
    obtain ⟨i, _, rfl⟩ := List.mem_map.1 hp
    simp only
    omega)]
  exact head0
theorem ld_len (a : Nat) (l : List ByteArray) : (ldL a l).length = 128 := by unfold ldL; rw [layP_len, L0_len]
theorem ld_size (a : Nat) (l : List ByteArray) (hz : ∀ i, i < l.length → (l.getD i ByteArray.empty).size = 256) : ∀ t ∈ ldL a l, t.size = 256 :=
  layP_size _ _ L0_size (fun p hp => by
    obtain ⟨i, hi, rfl⟩ := List.mem_map.1 hp
    exact hz i (List.mem_range.1 hi))
theorem ldA_len (a : Nat) (l : List ByteArray) : (ldA a l).length = l.length + 3 := by
  unfold ldA
  rw [List.length_append, List.length_append, prA_len]
  show 2 + l.length + 1 = _
  omega

theorem results_tmp4 {fn : Func} {t u v x : Tmp} (h : fn.results = #[.tmp t, .tmp u, .tmp v, .tmp x]) (tmps : Array Value) (P : Program) (w : World) :
    (results fn tmps).run P w = .ok (.tuple #[tmps.getD t undef, tmps.getD u undef, tmps.getD v undef, tmps.getD x undef]) w := by
  simp [results, h]
theorem DF.write {w0 w : World} {b : Nat} {s : DSt} {X : Nat → Prop} (h : DF w0 w b s X) (hp : s.pend.length ≤ 1000000000) (ha : s.acts.length ≤ 1000000000) (i : Int) (t : ByteArray) :
    Calls Tryz.prog 79 #[.pointer (some ⟨b, 0, none⟩), .int .i64 i, .string t] w fun e w' => e = .returned (.int .i64 (writeE s i t)) ∧ DF w0 w' b (writeS s i t) X ∧ Only (fun x => ¬ X x) w w' := by
  obtain ⟨v, h1, h2, h3, h4⟩ := h
  refine (write_any w _ b v s h1 h2.size h3 hp ha i t).mono ?_
  rintro e w' ⟨rfl, hP⟩
  exact ⟨rfl, DF.dpost h1 h2 (h3.write i t) h4 hP⟩
/-- The pages of a table of nobody. -/
def pgN (m : Nat) : List ByteArray := (List.range m).map fun k => pgR (k + 1) Rc0
theorem pgN_len (m : Nat) : (pgN m).length = m := by simp [pgN]
theorem pgN_succ (m : Nat) : strs (pgN (m + 1)) = strs (pgN m) ++ [.string (pgR (m + 1) Rc0)] := by simp [pgN, strs, List.range_succ]
theorem pgN_at (m k : Nat) (h : k < m) : (pgN m).getD k ByteArray.empty = pgR (k + 1) Rc0 := by simp [pgN, List.getD_eq_getElem?_getD, h]
theorem pgN_size (i : Nat) (hi : i < 8) : ((pgN 8).getD i ByteArray.empty).size = 256 := by rw [pgN_at _ _ hi]; exact pgR_size _ _ (by omega)
def InTT (w : World) (m : Nat) (u : Value) (wr : World) : Prop := wr.ownsRow w.heap.size 9 1 u m (strs (pgN m)) ∧ Below w.heap.size w wr
theorem ts_zero (a : Nat) (h : a + 8 ≤ 128) : TS (ldL a (pgN 8)) a (fun _ => Rc0) := fun k hk => by
  rw [ld_at a _ (by rw [pgN_len]; exact h) k (by rw [pgN_len]; exact hk), pgN_at _ _ hk]
  exact ⟨rfl, ROk.zero⟩
set_option maxRecDepth 100000 in
set_option maxHeartbeats 2000000 in
theorem tinit_any (w : World) : Calls Tryz.prog 24 #[] w fun e w' => ∃ v, e = .returned v ∧ InTT w 8 v w' := by
  obtain ⟨i0, hi, hz0, hz1, hz2⟩ := info_parts infoS
  have HI := hide (And.intro hi (And.intro hz0 (And.intro hz1 hz2)))
  clear hi hz0 hz1 hz2
  have HZ := hide rV_zero
  go_enter Tryz.func24, Tryz.ntmps24
  go_wp2
  go_loopw [1, 3, 2] (fun u i _ wr => ∃ k : Nat, k ≤ 8 ∧ i = .int .i64 (k : Int) ∧ InTT w k u wr) (fun _ i _ _ => 8 - (intOf i).toNat)
  case atStart => exact ⟨0, by omega, rfl, World.ownsRow_nil _ _ _ _, Below.refl _ _⟩
  case round =>
    obtain ⟨k, hk, rfl, hR, hB⟩ := hrel
    obtain ⟨wo, rfl⟩ : ∃ wo, wo = wr := ⟨_, rfl⟩
    obtain ⟨pv, cv, rfl, hcv⟩ := row_form hR
    by_cases hkn : k < 8
    · have hkn' : (k : Int) < 8 := by omega
      have HR := hide hR
      have HB := hide hB
      clear hR hB hcv
      have HSE := hide (sectorOf_any (k + 1) (by omega) Rc0 ROk.zero wo)
      rw [unhide HZ] at HSE
      obtain ⟨tt, ht⟩ : ∃ xx, pgR (k + 1) Rc0 = xx := ⟨_, rfl⟩
      rw [ht] at HSE
      have HT := hide ht
      have e1 : (k : Int) + 1 = ((k + 1 : Nat) : Int) := by omega
      have hwk : IntKind.i64.wrap ((k + 1 : Nat) : Int) = ((k + 1 : Nat) : Int) := wrapI_eq _ (by omega) (by omega)
      generalize hkk : ((k + 1 : Nat) : Int) = kk at *
      have HKK := hide hkk.symm
      clear ht hkk
      go_wp2_with fail
      refine (unhide HSE).mono ?_
      rintro e y2 ⟨rfl, hb2⟩
      have HRA := hide (show (y2.alloc (.cells #[.string tt] 9)).ownsRow w.heap.size 9 1 (.slice pv k cv) k (strs (pgN k)) from (owns_only (unhide HR) (Only.of_below (P := fun _ => False) hb2) (fun _ _ q => q)).alloc _)
      have HXB := hide ((unhide HB).trans ((hb2.alloc hb2.size (.cells #[.string tt] 9)).mono (unhide HB).size))
      clear hb2 HSE
      go_wp2_with (refine wpList_append_own _ rfl (.tmp 6) (.tmp 11) 50 rfl w.heap.size 9 i0 (.string ⟨#[]⟩) 1 16 Tryz.underlying50 (unhide HI).1 (unhide HI).2.1 (unhide HI).2.2.1 (unhide HI).2.2.2 rfl (by decide) _ k (strs (pgN k)) rfl (unhide HRA) ⟨y2.heap.size, 0, none⟩ 1 1 [.string tt] rfl rfl (fun q u hu => news_one y2 9 _ q u hu) (by simp [Value.oneCell']) (by unfold maxLen; omega) (by omega) (unhide HXB).size ?_)
      intro v5 x5 ho5 hg5 _
      have HRR := hide (show InTT w (k + 1) v5 x5 from ⟨by rw [pgN_succ, unhide HT]; exact ho5, (unhide HXB).grown hg5 (unhide HXB).size (fun q hq => ((unhide HRA).lt q hq).1)⟩)
      clear ho5 hg5 HRA HXB HT
      go_wp2
      go_roundw
      case rel => exact ⟨k + 1, by omega, by rw [unhide HKK], unhide HRR⟩
      case measure => simp [intOf]; have := unhide HKK; omega
    · have hke : k = 8 := by omega
      have hkn' : ¬ (k : Int) < 8 := by omega
      have HF := hide (show InTT w 8 (.slice pv k cv) wo from ⟨by rw [← hke]; exact hR, hB⟩)
      clear hR hB hcv hke
      go_wp2
      go_ret
      exact ⟨_, rfl, unhide HF⟩
set_option maxRecDepth 100000 in
set_option maxHeartbeats 2000000 in
theorem tlaid_any (a : Nat) (h19 : 19 ≤ a) (h128 : a + 8 ≤ 128) (w : World) : Calls Tryz.prog 34 #[.int .i64 (a : Int)] w fun e w' => ∃ b, e = .returned (.pointer (some ⟨b, 0, none⟩)) ∧ DI w w' b (rs (ldL a (pgN 8)) (ldA a (pgN 8))) := by
  have HNW := hide (new128 w)
  have ha0 : (0 : Int) < (a : Int) := by omega
  go_enter Tryz.func34, Tryz.ntmps34
  go_wp2_with fail
  refine (unhide HNW).mono ?_
  rintro e x1 ⟨b, rfl, v, h1, h5, h6⟩
  have HF := hide (format_any x1 w.heap.size b v _ h1 h5.size h6 (Nat.zero_le _) (Nat.zero_le _))
  rw [format_rs] at HF
  have H1 := hide (And.intro h1 (And.intro h5 h6))
  clear h1 h5 h6 HNW
  go_wp2_with fail
  refine (unhide HF).mono ?_
  rintro e x2 ⟨rfl, v2, k1, k2, k3⟩
  have hb2 := DI.only (unhide H1).1 (unhide H1).2.1 k2
  have hS2 : Sane (rs L0 A0) := by
    have := layR_sane [(1, headB 0 [])] _ (unhide H1).2.2
    rw [format_rs] at this
    exact this
  have X2 := hide (And.intro k1 (And.intro hb2 hS2))
  clear k1 k2 k3 hb2 hS2 H1 HF
  go_wp2_with fail
  refine (tinit_any _).mono ?_
  rintro e x3 ⟨u, rfl, hU, hb3⟩
  have hU' : x3.ownsRow x2.heap.size 9 1 u (pgN 8).length (strs (pgN 8)) := by rw [pgN_len]; exact hU
  obtain ⟨pv, cv, rfl, hst⟩ := Strs.ownB hU'
  obtain ⟨gv, ov, rfl, _, _, _⟩ := hst 0 (by rw [pgN_len]; decide)
  obtain ⟨g2, hg2⟩ : ∃ xx, x2.heap.size = xx := ⟨_, rfl⟩
  obtain ⟨g4, hg4⟩ : ∃ xx, x3.heap.size = xx := ⟨_, rfl⟩
  have HR := hide (show (g2 ≤ gv ∧ gv < g4) ∧ (∀ j, j < 8 → x3.cell? ⟨gv, ov + j, none⟩ = some (.string ((pgN 8).getD j ByteArray.empty))) from ⟨⟨by omega, by omega⟩, fun j hj => by
      obtain ⟨g, oo, q1, q2, q3, q4⟩ := hst j (by rw [pgN_len]; exact hj)
      cases q1
      exact q4⟩)
  have X3 := hide (show DF w x3 b (layS a (pgN 8) 0) (fun x => g2 ≤ x ∧ x < g4) ∧ Only (fun x => ¬ (g2 ≤ x ∧ x < g4)) x3 x3 from ⟨⟨v2, (unhide X2).1.below hb3, (unhide X2).2.1.trans (hb3.mono (unhide X2).2.1.size), (unhide X2).2.2, fun x hx => ⟨fun q => by have := ((unhide X2).1.fd x q).2; omega, by omega⟩⟩, Only.refl _ _⟩)
  rw [pgN_len]
  clear hU hU' hst hb3 hg2 hg4 X2
  go_wp2
  go_loopw [7] (fun i wr => ∃ k : Nat, k ≤ 8 ∧ i = .int .i64 (k : Int) ∧ DF w wr b (layS a (pgN 8) k) (fun x => g2 ≤ x ∧ x < g4) ∧ Only (fun x => ¬ (g2 ≤ x ∧ x < g4)) x3 wr) (fun i _ => 8 - (intOf i).toNat)
  case atStart => exact ⟨0, by omega, rfl, (unhide X3).1, (unhide X3).2⟩
  case round =>
    obtain ⟨k, hk, rfl, hD, hO⟩ := hrel
    obtain ⟨wo, rfl⟩ : ∃ wo, wo = wr := ⟨_, rfl⟩
    clear X3
    by_cases hkn : k < 8
    · have hkn' : (k : Int) < 8 := by omega
      have hdk : decide ((k : Int) < 8) = true := decide_eq_true hkn'
      have hk0 : (0 : Int) ≤ (k : Int) := by omega
      obtain ⟨hgl, cga⟩ := unhide HR
      have cg := cga k hkn
      have cg' : wo.cell? ⟨gv, ov + k, none⟩ = some (.string ((pgN 8).getD k ByteArray.empty)) := (World.cell?_of_block (a := ⟨gv, ov + k, none⟩) (hO.2 gv (World.block_lt_of_cell? x3 _ cg) (fun q => q hgl))).trans cg
      have HWR := hide (hD.write (by show (prN a (pgN 8) k).length ≤ _; rw [prN_len]; omega) (by show (A0 ++ prA a k).length ≤ _; rw [List.length_append, prA_len]; have : A0.length = 2 := rfl; omega) ((a + k : Nat) : Int) ((pgN 8).getD k ByteArray.empty))
      obtain ⟨w1, w2⟩ := layS_write a (pgN 8) k (by omega) (pgN_size k hkn)
      rw [w1, w2] at HWR
      have e1 : (a : Int) + (k : Int) = ((a + k : Nat) : Int) := by omega
      have hq : a + k ≤ 1000 := by omega
      have HO := hide hO
      clear hD w1 w2 cg cga hO hgl
      generalize a + k = ak at *
      generalize (pgN 8).getD k ByteArray.empty = tt at cg' HWR
      go_wp2_with fail
      refine (unhide HWR).mono ?_
      rintro e y1 ⟨rfl, hD1, hO1⟩
      have HF := hide (And.intro hD1 ((unhide HO).trans hO1 (fun _ _ q => q)))
      clear hD1 hO1 HWR HO
      go_wp2
      go_roundw
      case rel => exact ⟨k + 1, by omega, by go_num, (unhide HF).1, (unhide HF).2⟩
      case measure => simp [intOf]; omega
    · have hke : k = 8 := by omega
      have hkn' : ¬ (k : Int) < 8 := by omega
      have hdk : decide ((k : Int) < 8) = false := decide_eq_false hkn'
      have hD' := hD.di
      rw [hke, show (8 : Nat) = (pgN 8).length from (pgN_len 8).symm] at hD'
      have HFL := hide (flushD hD' (by show (prN a _ (pgN 8).length).length ≤ _; rw [prN_len, pgN_len]; decide) (by show (A0 ++ prA a (pgN 8).length).length ≤ _; rw [List.length_append, prA_len, pgN_len]; decide))
      rw [pgN_len] at HFL
      have hfl := layS_flush a (pgN 8)
      rw [pgN_len] at hfl
      rw [hfl.1, hfl.2] at HFL
      clear hD hD' hO hfl hke
      go_wp2_with fail
      refine (unhide HFL).mono ?_
      rintro e y1 ⟨rfl, hD1⟩
      have HF := hide hD1
      clear hD1 HFL
      go_wp2
      go_ret
      exact ⟨b, rfl, unhide HF⟩
/-- A pool that was opened. -/
def PoolT (w0 : World) (b a kp : Nat) (R : List ByteArray → List (Nat × Nat) → (Nat → Rc) → Prop) (e : Ending) (w' : World) : Prop :=
  ∃ jb pb S L A n0 T, e = .returned (.tuple #[.pointer (some ⟨pb, 0, none⟩), .int .i64 0]) ∧ PK w0 w' b jb pb S (fun _ => False) ∧ Seen S L A n0 L L ∧ S.op = false ∧ (S.tx = [] ∧ S.keep = kp) ∧ TS L a T ∧ R L A T
theorem tpopen_rest {w0 w : World} {b : Nat} {v : DV} {L : List ByteArray} {A : List (Nat × Nat)} {a : Nat} {T : Nat → Rc} (h : Dk w w0.heap.size b v (rs L A)) (h0 : Below w0.heap.size w0 w) (hg : ETy w) (hS : Sane (rs L A)) (n0 : Nat) (hn0 : n0 < 4294967296) (hL : L.length = 128) (hz : ∀ t ∈ L, t.size = 256) (hh : L.getD 1 ByteArray.empty = headB n0 []) (ha : A.length ≤ 10000000) (keep : Nat) (hk : keep ≤ 64) (hm : TS L a T) (R : List ByteArray → List (Nat × Nat) → (Nat → Rc) → Prop) (hR : R L A T) :
    Calls Tryz.prog 32 #[.pointer (some ⟨b, 0, none⟩), .int .i64 (keep : Int)] w (PoolT w0 b a keep R) := by
  have hO := open_clear h hg h0.size hS n0 hn0 (by omega) hh ha
  refine (popen_any w b keep hk (fun jp ag er w1 => er = 0 ∧ ∃ jb, jp = some ⟨jb, 0, none⟩ ∧ JK w0 w1 b jb (rs L A) ((n0 + 1) % 4294967296) false (fun _ => False)) (hO.mono (fun e w1 q => by
    obtain ⟨jb, rfl, hJ⟩ := q
    exact ⟨_, _, _, rfl, rfl, jb, rfl, JI.jk (JNew.ji h h0 hS hJ)⟩))).mono ?_
  rintro e w' ⟨jp, ag, er, w1, ⟨rfl, jb, rfl, hJ⟩, q | ⟨_, pb, bw, bv, rfl, hP⟩⟩
  · exact absurd rfl q.1
  · exact ⟨jb, pb, restP L A ((n0 + 1) % 4294967296) keep, L, A, n0, T, rfl, POk.pk hJ hk hP, ⟨⟨rfl, rfl, rfl, rfl⟩, hL, hz, hh, hn0, fun k _ _ => rfl, hL, hL, fun k _ _ => rfl, fun _ => rfl, fun p hp => by cases hp⟩, rfl, ⟨rfl, rfl⟩, hm, hR⟩
end Go.Proofs.YtbpcgephicmhhaaGreatDoor

namespace Go.Proofs.YtbpcgephicmhhaaGreatDoor
open Go.RowKit Go.Maps Go.Sort Go.Shelf
set_option maxRecDepth 100000
set_option maxRecDepth 100000 in
set_option maxHeartbeats 2000000 in
theorem topen_ok {w0 w : World} {b jb pb : Nat} {X : Nat → Prop} {a cap : Nat} {S : PS} {L : List ByteArray} {A : List (Nat × Nat)} {hn : Nat} {Mw Mn : List ByteArray} {R : Nat → Rc} (K : PK w0 w b jb pb S X) (hg : ETy w0) (hs : Seen S L A hn Mw Mn) (hm : TS Mn a R) (hk : Kin a S.tx) (h19 : 19 ≤ a) (h128 : a + 8 ≤ 128) (hcap : cap ≤ 1024) (hq : qs R 8 ≤ cap) :
    Calls Tryz.prog 33 #[.pointer (some ⟨pb, 0, none⟩), .int .i64 (a : Int), .int .i64 (cap : Int)] w fun e w' => ∃ tb, e = .returned (.tuple #[.pointer (some ⟨tb, 0, none⟩), .int .i64 0]) ∧ w.heap.size ≤ tb ∧ ∃ S', TG w0 w' b jb pb tb (fun x => X x ∨ x = tb) a cap S' L A hn Mw Mn R ∧ S'.op = S.op ∧ Tk S' S ∧ Only (fun x => ¬ X x) w w' := by
  obtain ⟨tb, htb⟩ : ∃ xx, w.heap.size = xx := ⟨_, rfl⟩
  have HCN := hide (fun W => isCap_any (cap : Int) W)
  rw [decide_eq_true (show (0 : Int) ≤ (cap : Int) by omega), decide_eq_true (show (cap : Int) ≤ 1024 by omega)] at HCN
  have HSZ := hide (show Calls Tryz.prog 74 #[.pointer (some ⟨pb, 0, none⟩)] w fun e w' => e = .returned (.int .i64 128) ∧ w' = w from by
    obtain ⟨bw, bv, ov, Ki⟩ := K
    have := Ki.size
    rw [hs.rst.s, show ((rs L A).last.length : Int) = 128 from by show ((L.length : Nat) : Int) = 128; rw [hs.len]; rfl] at this
    exact this)
  have ha0 : decide ((a : Int) < 0) = false := decide_eq_false (by omega)
  have ha1 : decide ((120 : Int) < (a : Int)) = false := decide_eq_false (by omega)
  obtain ⟨x1, hx1⟩ : ∃ xx, w.alloc (.cells (Tbv pb a cap) 154) = xx := ⟨_, rfl⟩
  have hb1 : Below w.heap.size w x1 := by rw [← hx1]; exact (Below.refl _ w).alloc (Nat.le_refl _) _
  have B1 : Blk x1 tb (Tbv pb a cap) 154 := by rw [← hx1, ← htb]; exact Blk.new w _ _
  have G1 : TG w0 x1 b jb pb tb (fun x => X x ∨ x = tb) a cap S L A hn Mw Mn R := ⟨K.more hb1 (fun x q => q.imp_right (fun e => by rw [e]; exact ⟨by omega, B1.lt⟩)), B1, .inr rfl, hg, hs, hm, hk, h19, h128, hcap⟩
  have HRD := hide (tRead_any G1)
  have HLF := hide (fun W (q : Blk W tb (Tbv pb a cap) 154) => left_any q hcap R G1.ok)
  have HX := hide (And.intro (Only.of_below (P := fun x => ¬ X x) hb1) (show ∀ x, X x → x < w.heap.size from fun x hx => K.lt x hx))
  have hneg : decide (((cap : Int) - (qs R 8 : Int)) < 0) = false := decide_eq_false (by omega)
  have hzl := lC_len R
  have hzo := lC_one R
  generalize (cap : Int) - (qs R 8 : Int) = lf at *
  generalize lC R = zs at *
  unfold Tbv at hx1
  clear K hs hm hk hb1 B1 G1 hq
  go_enter Tryz.func33, Tryz.ntmps33
  go_wp2_with (first | (go_at_call 73; refine (unhide HCN _).mono ?_; rintro e w' ⟨rfl, hw'⟩; subst w') | (go_at_call 74; refine (unhide HSZ).mono ?_; rintro e w' ⟨rfl, hw'⟩; subst w'))
  clear hx1
  refine (unhide HRD).mono ?_
  rintro e x5 ⟨rfl, S5, G5, ho5, hT5, hO5⟩
  obtain ⟨h7, hh7⟩ : ∃ xx, x5.heap.size = xx := ⟨_, rfl⟩
  obtain ⟨x6, hx6⟩ : ∃ xx, x5.alloc (.cells Tryz.zeroCells156 156) = xx := ⟨_, rfl⟩
  have BZ6 : Blk x6 h7 Tryz.zeroCells156 156 := by rw [← hx6, ← hh7]; exact Blk.new x5 _ _
  have hzz : (Tryz.zeroCells156).size = 160 := by rw [← lC_zero]; simp [lC_len]
  have TH6 := hide (blk_there BZ6 zs.toArray.size (by rw [hzz]; simp [hzl]))
  have B7 := setCells_all BZ6 zs (by rw [hzz, hzl])
  have hb6 : Below x5.heap.size x5 x6 := by rw [← hx6]; exact (Below.refl _ x5).alloc (Nat.le_refl _) _
  have hb7 : Below x5.heap.size x5 (x6.setCells h7 0 zs) := below_setCells (by omega) zs 0 hb6
  obtain ⟨x7, hx7⟩ : ∃ xx, x6.setCells h7 0 zs = xx := ⟨_, rfl⟩
  rw [hx7] at B7 hb7
  have R7 := hide (blk_range B7)
  have HZL := hide hzl
  have HZO := hide hzo
  have G7 := G5.below hb7
  have X7 := hide (And.intro G7 (And.intro ho5 (And.intro hT5 (hO5.trans (Only.of_below (P := fun x => ¬ (X x ∨ x = tb)) hb7) (fun _ _ q => q)))))
  have HL7 := hide (unhide HLF x7 G7.bk)
  clear BZ6 hzz B7 hb6 hb7 hzl hzo G5 G7 ho5 hT5 hO5 HRD HLF
  go_wp2_with (first | refine wpList_store_mid rfl 156 (.tmp 9) (.tmp 37) rfl h7 0 zs.toArray rfl rfl (unhide TH6) (by rw [sizeRol]; simp [unhide HZL]) (unhide HZO) ?_ | refine wpList_load_mid rfl 156 (.tmp 9) rfl h7 0 rfl _ _ (unhide R7) Tryz.underlying156 rfl (by rw [sizeRol, unhide HZL]) ?_)
  clear hx6 hx7 hh7 TH6 R7 HZO
  refine (unhide HL7).mono ?_
  rintro e x8 ⟨rfl, hb8⟩
  obtain ⟨G7, ho5, hT5, hO7⟩ := unhide X7
  have HF := hide (show w.heap.size ≤ tb ∧ ∃ S', TG w0 x8 b jb pb tb (fun x => X x ∨ x = tb) a cap S' L A hn Mw Mn R ∧ S'.op = S.op ∧ Tk S' S ∧ Only (fun x => ¬ X x) w x8 from ⟨by omega, S5, G7.below hb8, ho5, hT5, ((unhide HX).1.trans (hO7.mono (fun x _ q r => q (.inl r))) (fun _ _ q => q)).trans (Only.of_below (P := fun x => ¬ X x) hb8) (fun _ _ q => q)⟩)
  clear hb8 G7 ho5 hT5 hO7 X7 HL7
  go_wp2
  go_ret2
  exact ⟨tb, rfl, (unhide HF).1, (unhide HF).2⟩
/-- A table between the calls of a law: Rw is what was committed, R what the transaction sees. -/
def TSt (w0 w : World) (b jb pb tb : Nat) (X : Nat → Prop) (a cap kp : Nat) (op : Bool) (L : List ByteArray) (A : List (Nat × Nat)) (hn : Nat) (Rw R : Nat → Rc) : Prop :=
  ∃ S Mw Mn, TG w0 w b jb pb tb X a cap S L A hn Mw Mn R ∧ TS Mw a Rw ∧ S.op = op ∧ S.keep = kp
theorem TSt.bel {w0 w : World} {b jb pb tb : Nat} {X : Nat → Prop} {a cap kp : Nat} {op : Bool} {L : List ByteArray} {A : List (Nat × Nat)} {hn : Nat} {Rw R : Nat → Rc} (h : TSt w0 w b jb pb tb X a cap kp op L A hn Rw R) : Below w0.heap.size w0 w := by
  obtain ⟨S, Mw, Mn, h1, h2, h3, h4⟩ := h
  exact h1.bel
theorem TSt.begin {w0 w : World} {b jb pb tb : Nat} {X : Nat → Prop} {a cap kp : Nat} {L : List ByteArray} {A : List (Nat × Nat)} {hn : Nat} {Rw R : Nat → Rc} (h : TSt w0 w b jb pb tb X a cap kp false L A hn Rw R) : Calls Tryz.prog 12 #[.pointer (some ⟨pb, 0, none⟩)] w fun e w' => e = .returned (.int .i64 0) ∧ TSt w0 w' b jb pb tb X a cap kp true L A hn Rw R ∧ Only (fun x => ¬ X x) w w' := by
  obtain ⟨S, Mw, Mn, h1, h2, h3, h4⟩ := h
  obtain ⟨s1, s2, s3, s4⟩ := h1.seen.begin
  rw [h3] at s1
  have hc := pbegin_any h1.pk
  rw [show beginE S = 0 from s1] at hc
  refine hc.mono ?_
  rintro e w' ⟨rfl, K, hO⟩
  exact ⟨rfl, ⟨_, Mw, Mn, h1.next K hO s2 h1.ts (by rw [s4]; exact h1.tk), h2, s3, by rw [← h4]; unfold beginS; split <;> (try split) <;> rfl⟩, hO⟩
theorem TG.t16 {w0 w : World} {b jb pb tb : Nat} {X : Nat → Prop} {a cap : Nat} {S : PS} {L : List ByteArray} {A : List (Nat × Nat)} {hn : Nat} {Mw Mn : List ByteArray} {R : Nat → Rc} (h : TG w0 w b jb pb tb X a cap S L A hn Mw Mn R) : S.tx.length ≤ 16 := by have := h.few; omega
theorem TG.tok {w0 w : World} {b jb pb tb : Nat} {X : Nat → Prop} {a cap : Nat} {S : PS} {L : List ByteArray} {A : List (Nat × Nat)} {hn : Nat} {Mw Mn : List ByteArray} {R : Nat → Rc} (h : TG w0 w b jb pb tb X a cap S L A hn Mw Mn R) : ∀ p ∈ S.tx, 19 ≤ p.1 ∧ p.1 < 128 ∧ p.2.size = 256 := by
  obtain ⟨bw, bv, ov, K⟩ := h.pk
  have := K.tok
  rw [h.seen.rst.s, show (rs L A).last = L from rfl, h.seen.len] at this
  exact this
theorem TSt.commit {w0 w : World} {b jb pb tb : Nat} {X : Nat → Prop} {a cap kp : Nat} {L : List ByteArray} {A : List (Nat × Nat)} {hn : Nat} {Rw R : Nat → Rc} (h : TSt w0 w b jb pb tb X a cap kp true L A hn Rw R) (ha : A.length ≤ 1000000) : Calls Tryz.prog 22 #[.pointer (some ⟨pb, 0, none⟩)] w fun e w' => e = .returned (.int .i64 0) ∧ (∃ L' A', A'.length ≤ A.length + 38 ∧ TSt w0 w' b jb pb tb X a cap kp false L' A' ((hn + 1) % 4294967296) R R) ∧ Only (fun x => ¬ X x) w w' := by
  obtain ⟨S, Mw, Mn, h1, h2, h3, h4⟩ := h
  obtain ⟨s1, s2, s3⟩ := h1.seen.commit h3 h1.srt h1.t16 h1.tok
  have hc := pcommit_any h1.pk (by rw [h1.seen.rst.nx]; exact Nat.mod_lt _ (by decide)) (by rw [h1.seen.rst.s]; exact Nat.zero_le _) (by rw [h1.seen.rst.s]; show A.length ≤ _; omega)
  rw [s1] at hc
  refine hc.mono ?_
  rintro e w' ⟨rfl, K, hO⟩
  refine ⟨rfl, ⟨_, _, ?_, _, Mn, Mn, h1.next K hO s2 h1.ts ?_, h1.ts, s3, ?_⟩, hO⟩
  · rw [List.length_append, comA_len _ h1.t16]
    exact Nat.le_refl _
  · rw [s2.cl s3]
    intro p hp
    cases hp
  · rw [← h4]
    exact (commit_rest h1.seen.rst h3 h1.seen.len (tx_good h1.srt h1.t16 h1.tok)).2.2.2.2.1
theorem TKept.st {w0 w : World} {b jb pb tb : Nat} {X : Nat → Prop} {a cap kp : Nat} {op : Bool} {S : PS} {L : List ByteArray} {A : List (Nat × Nat)} {hn : Nat} {Mw Mn : List ByteArray} {Rw R : Nat → Rc} {w' : World} (k : TKept w0 w b jb pb tb X a cap S L A hn Mw Mn R w') (h2 : TS Mw a Rw) (h3 : S.op = op) (h4 : S.keep = kp) : TSt w0 w' b jb pb tb X a cap kp op L A hn Rw R ∧ Only (fun x => ¬ X x) w w' := by
  obtain ⟨S', k1, k2, k3, k4⟩ := k
  exact ⟨⟨S', Mw, Mn, k1, h2, k2.trans h3, k3.2.trans h4⟩, k4⟩
theorem TChg.st {w0 w : World} {b jb pb tb : Nat} {X : Nat → Prop} {a cap kp : Nat} {S : PS} {L : List ByteArray} {A : List (Nat × Nat)} {hn : Nat} {Mw : List ByteArray} {Rw R' : Nat → Rc} {w' : World} (k : TChg w0 w b jb pb tb X a cap S L A hn Mw R' w') (h2 : TS Mw a Rw) (h4 : S.keep = kp) : TSt w0 w' b jb pb tb X a cap kp true L A hn Rw R' ∧ Only (fun x => ¬ X x) w w' := by
  obtain ⟨S', Mn', k1, k2, k3, k4⟩ := k
  exact ⟨⟨S', Mw, Mn', k1, h2, k2, k3.trans h4⟩, k4⟩
theorem TSt.add_ok {w0 w : World} {b jb pb tb : Nat} {X : Nat → Prop} {a cap kp : Nat} {L : List ByteArray} {A : List (Nat × Nat)} {hn : Nat} {Rw R : Nat → Rc} (h : TSt w0 w b jb pb tb X a cap kp true L A hn Rw R) (k : Nat) (hk : k < 8) (q : Nat) (hq : q ≤ 65535) (hE : wAdd (R k) ((cap : Int) - (qs R 8 : Int)) q = 0) : Calls Tryz.prog 13 #[.pointer (some ⟨tb, 0, none⟩), .int .i64 ((k + 1 : Nat) : Int), .int .i64 (q : Int)] w fun e w' => e = .returned (.int .i64 0) ∧ TSt w0 w' b jb pb tb X a cap kp true L A hn Rw (ups R k ⟨true, q, 0, []⟩) ∧ Only (fun x => ¬ X x) w w' := by
  obtain ⟨S, Mw, Mn, h1, h2, h3, h4⟩ := h
  refine (tAdd_ok h1 h3 k hk q hq hE).mono ?_
  rintro e w' ⟨rfl, q⟩
  exact ⟨rfl, q.st h2 h4⟩
theorem TSt.add_no {w0 w : World} {b jb pb tb : Nat} {X : Nat → Prop} {a cap kp : Nat} {L : List ByteArray} {A : List (Nat × Nat)} {hn : Nat} {Rw R : Nat → Rc} (h : TSt w0 w b jb pb tb X a cap kp true L A hn Rw R) (k : Nat) (hk : k < 8) (q : Nat) (hq : q ≤ 65535) (hE : wAdd (R k) ((cap : Int) - (qs R 8 : Int)) q ≠ 0) : Calls Tryz.prog 13 #[.pointer (some ⟨tb, 0, none⟩), .int .i64 ((k + 1 : Nat) : Int), .int .i64 (q : Int)] w fun e w' => e = .returned (.int .i64 (wAdd (R k) ((cap : Int) - (qs R 8 : Int)) q)) ∧ TSt w0 w' b jb pb tb X a cap kp true L A hn Rw R ∧ Only (fun x => ¬ X x) w w' := by
  obtain ⟨S, Mw, Mn, h1, h2, h3, h4⟩ := h
  refine (tAdd_no h1 h3 k hk q hq hE).mono ?_
  rintro e w' ⟨rfl, q⟩
  exact ⟨rfl, q.st h2 h3 h4⟩
theorem TSt.charge_ok {w0 w : World} {b jb pb tb : Nat} {X : Nat → Prop} {a cap kp : Nat} {L : List ByteArray} {A : List (Nat × Nat)} {hn : Nat} {Rw R : Nat → Rc} (h : TSt w0 w b jb pb tb X a cap kp true L A hn Rw R) (k : Nat) (hk : k < 8) (m : Int) (hE : wChg (R k) m = 0) : Calls Tryz.prog 14 #[.pointer (some ⟨tb, 0, none⟩), .int .i64 ((k + 1 : Nat) : Int), .int .i64 m] w fun e w' => e = .returned (.int .i64 0) ∧ TSt w0 w' b jb pb tb X a cap kp true L A hn Rw (ups R k (chgR (R k) m)) ∧ Only (fun x => ¬ X x) w w' := by
  obtain ⟨S, Mw, Mn, h1, h2, h3, h4⟩ := h
  refine (tCharge_ok h1 h3 k hk m hE).mono ?_
  rintro e w' ⟨rfl, q⟩
  exact ⟨rfl, q.st h2 h4⟩
theorem TSt.addVol_ok {w0 w : World} {b jb pb tb : Nat} {X : Nat → Prop} {a cap kp : Nat} {L : List ByteArray} {A : List (Nat × Nat)} {hn : Nat} {Rw R : Nat → Rc} (h : TSt w0 w b jb pb tb X a cap kp true L A hn Rw R) (k : Nat) (hk : k < 8) (a0 b0 : Nat) (ha0 : a0 ≤ 99) (hb0 : b0 ≤ 1023) (hE : wAdv (R k) a0 = 0) : Calls Tryz.prog 18 #[.pointer (some ⟨tb, 0, none⟩), .int .i64 ((k + 1 : Nat) : Int), .int .i64 (a0 : Int), .int .i64 (b0 : Int)] w fun e w' => e = .returned (.int .i64 0) ∧ TSt w0 w' b jb pb tb X a cap kp true L A hn Rw (ups R k ((R k).with a0 b0)) ∧ Only (fun x => ¬ X x) w w' := by
  obtain ⟨S, Mw, Mn, h1, h2, h3, h4⟩ := h
  refine (tAddVol_ok h1 h3 k hk a0 b0 ha0 hb0 hE).mono ?_
  rintro e w' ⟨rfl, q⟩
  exact ⟨rfl, q.st h2 h4⟩
theorem TSt.get_ok {w0 w : World} {b jb pb tb : Nat} {X : Nat → Prop} {a cap kp : Nat} {op : Bool} {L : List ByteArray} {A : List (Nat × Nat)} {hn : Nat} {Rw R : Nat → Rc} (h : TSt w0 w b jb pb tb X a cap kp op L A hn Rw R) (k : Nat) (hk : k < 8) (hth : (R k).th = true) : Calls Tryz.prog 15 #[.pointer (some ⟨tb, 0, none⟩), .int .i64 ((k + 1 : Nat) : Int)] w fun e w' => ∃ v, e = .returned (.tuple #[.agg #[.int .i64 ((k + 1 : Nat) : Int), .int .i64 ((R k).q : Int), .int .i64 ((R k).c : Int), v], .int .i64 0]) ∧ w'.ownsRow w.heap.size 100 2 v (R k).v.length (vls (R k)) ∧ TSt w0 w' b jb pb tb X a cap kp op L A hn Rw R ∧ Only (fun x => ¬ X x) w w' := by
  obtain ⟨S, Mw, Mn, h1, h2, h3, h4⟩ := h
  refine (tGet_ok h1 k hk hth).mono ?_
  rintro e w' ⟨v, rfl, q1, q2⟩
  exact ⟨v, rfl, q1, q2.st h2 h3 h4⟩
set_option maxRecDepth 100000 in
set_option maxHeartbeats 2000000 in
theorem topened_any (cap : Nat) (hcap : cap ≤ 1024) (w : World) (hg : ETy w) :
    Calls Tryz.prog 10 #[.int .i64 (cap : Int)] w fun e w' => ∃ b pb tb, e = .returned (.tuple #[.pointer (some ⟨b, 0, none⟩), .pointer (some ⟨pb, 0, none⟩), .pointer (some ⟨tb, 0, none⟩), .bool true]) ∧ ∃ jb L A hn, A.length ≤ 1000 ∧ TSt w w' b jb pb tb (fun x => x = tb) 19 cap 4 false L A hn (fun _ => Rc0) (fun _ => Rc0) := by
  have HLD := hide (tlaid_any 19 (by decide) (by decide) w)
  simp only [Int.cast_ofNat_Int] at HLD
  have HQ := hide hg
  clear hg
  go_enter Tryz.func10, Tryz.ntmps10
  go_wp2_with fail
  refine (unhide HLD).mono ?_
  rintro e x2 ⟨b, rfl, dv, d1, d2, d3⟩
  have hg := unhide HQ
  have HPO := hide (tpopen_rest (w0 := w) (T := fun _ => Rc0) (a := 19) d1 d2 (hg.below d2 hg.lt) d3 0 (by decide) (ld_len _ _) (ld_size 19 _ (fun i hi => pgN_size i (by rw [pgN_len] at hi; exact hi))) (ld_head 19 _ (by decide)) (by rw [ldA_len, pgN_len]; decide) 4 (by decide) (ts_zero 19 (by decide)) (fun L A T => T = (fun _ => Rc0) ∧ A.length ≤ 1000) ⟨rfl, by rw [ldA_len, pgN_len]; decide⟩)
  simp only [Int.cast_ofNat_Int] at HPO
  clear d1 d2 d3 hg HLD
  go_wp2_with fail
  refine (unhide HPO).mono ?_
  rintro e x3 ⟨jb, pb, S, L, A, n0, T, rfl, K, hs, ho, ht, hm, rfl, hA⟩
  have HIO := hide (topen_ok (cap := cap) K (unhide HQ) hs hm (by rw [ht.1]; intro p hp; cases hp) (by decide) (by decide) hcap (Nat.zero_le _))
  have HR := hide (And.intro ho (And.intro ht (And.intro hA hm)))
  simp only [Int.cast_ofNat_Int] at HIO
  clear K hs ho ht hm hA HPO
  go_wp2_with fail
  refine (unhide HIO).mono ?_
  rintro e x4 ⟨tb, rfl, _, S', k1, k2, k3, k4⟩
  obtain ⟨ho, ht, hA, hm⟩ := unhide HR
  have HK := hide (show ∃ jb L A hn, A.length ≤ 1000 ∧ TSt w x4 b jb pb tb (fun x => x = tb) 19 cap 4 false L A hn (fun _ => Rc0) (fun _ => Rc0) from ⟨jb, _, A, n0, hA, S', _, _, k1.less (fun x q => .inr q) rfl, hm, k2.trans ho, k3.2.trans ht.2⟩)
  clear k1 k2 k3 k4 ho ht hA hm HIO HR
  go_wp2
  refine bodyPost_ret (results_tmp4 rfl _ _ _) rfl ?_
  exact ⟨b, pb, tb, rfl, unhide HK⟩
end Go.Proofs.YtbpcgephicmhhaaGreatDoor

namespace Go.Proofs.YtbpcgephicmhhaaGreatDoor
open Go.RowKit Go.Maps Go.Sort Go.Shelf
def aw0 : Nat → Rc := fun _ => Rc0
def aw1 : Nat → Rc := ups aw0 0 ⟨true, 83, 0, []⟩
def aw2 : Nat → Rc := ups aw1 0 (chgR (aw1 0) 3)
def aw3 : Nat → Rc := ups aw2 0 ((aw2 0).with 5 7)
theorem aw_a : wAdd (aw0 0) (((83 : Nat) : Int) - (qs aw0 8 : Int)) 83 = 0 := rfl
theorem aw_b : wAdd (aw1 1) (((83 : Nat) : Int) - (qs aw1 8 : Int)) 1 = 114 := rfl
theorem aw_c : wChg (aw1 0) 3 = 0 := rfl
theorem aw_d : wAdv (aw2 0) 5 = 0 := by
  unfold wAdv
  rw [if_pos (show (aw2 0).th = true from rfl), if_neg (fun ⟨p, h1, _⟩ => absurd h1 (by show ¬ p < 0; omega)), if_neg (show ¬ (aw2 0).v.length = 8 from fun q => by cases q)]
theorem eq_V57 (w : World) : (Op.equalIn 10000 100 (.agg #[.int .i64 5, .int .i64 7]) (.agg #[.int .i64 5, .int .i64 7])).run Tryz.prog w = .ok true w := by kernel_rfl
/-- A row of one volume. -/
theorem one_vol {w : World} {base : Nat} {v x y : Value} (h : w.ownsRow base 100 2 v 1 [x, y]) : ∃ g cp, v = .slice (some ⟨g, 0, none⟩) 1 cp ∧ w.cell? ⟨g, 0, none⟩ = some x ∧ w.cell? ⟨g, 1, none⟩ = some y := by
  obtain ⟨p, cp, hv, -⟩ := row_form h
  have h' := h
  rcases h.2 with ⟨_, q⟩ | ⟨g, cap, cur, q, _⟩
  · cases q
  · rw [q] at h'
    exact ⟨g, cap, q, by rw [h'.cellAt 0 (by decide)]; rfl, by rw [h'.cellAt 1 (by decide)]; rfl⟩
set_option maxRecDepth 100000 in
set_option maxHeartbeats 2000000 in
theorem awake11_any (w : World) (hg : ETy w) : Calls Tryz.prog 9 #[] w fun e w' => e = .returned (.bool true) ∧ Below w.heap.size w w' := by
  have HOP := hide (topened_any 83 (by decide) w hg)
  simp only [Int.cast_ofNat_Int] at HOP
  clear hg
  go_enter Tryz.func9, Tryz.ntmps9
  go_wp2_with fail
  refine (unhide HOP).mono ?_
  rintro e x1 ⟨b, pb, tb, rfl, jb, LL, AA, hn, hA, h1⟩
  have HA := hide hA
  have HC := hide h1.begin
  clear h1 hA HOP
  go_wp2_with fail
  refine (unhide HC).mono ?_
  rintro e x2 ⟨rfl, h2, -⟩
  have h2' : TSt w x2 b jb pb tb (fun x => x = tb) 19 83 4 true LL AA hn aw0 aw0 := h2
  have HC := hide (h2'.add_ok 0 (by decide) 83 (by decide) aw_a)
  simp only [show ((0 + 1 : Nat) : Int) = 1 from rfl, show ((83 : Nat) : Int) = 83 from rfl] at HC
  clear h2 h2'
  go_wp2_with fail
  refine (unhide HC).mono ?_
  rintro e x3 ⟨rfl, h3, -⟩
  have h3' : TSt w x3 b jb pb tb (fun x => x = tb) 19 83 4 true LL AA hn aw0 aw1 := h3
  have HC := hide (h3'.add_no 1 (by decide) 1 (by decide) (show wAdd (aw1 1) (((83 : Nat) : Int) - (qs aw1 8 : Int)) 1 ≠ 0 by rw [aw_b]; decide))
  rw [aw_b] at HC
  simp only [show ((1 + 1 : Nat) : Int) = 2 from rfl, show ((1 : Nat) : Int) = 1 from rfl] at HC
  clear h3 h3'
  go_wp2_with fail
  refine (unhide HC).mono ?_
  rintro e x4 ⟨rfl, h4, -⟩
  have h4' : TSt w x4 b jb pb tb (fun x => x = tb) 19 83 4 true LL AA hn aw0 aw1 := h4
  have HC := hide (h4'.charge_ok 0 (by decide) 3 aw_c)
  simp only [show ((0 + 1 : Nat) : Int) = 1 from rfl] at HC
  clear h4 h4'
  go_wp2_with fail
  refine (unhide HC).mono ?_
  rintro e x5 ⟨rfl, h5, -⟩
  have h5' : TSt w x5 b jb pb tb (fun x => x = tb) 19 83 4 true LL AA hn aw0 aw2 := h5
  have HC := hide (h5'.addVol_ok 0 (by decide) 5 7 (by decide) (by decide) aw_d)
  simp only [show ((0 + 1 : Nat) : Int) = 1 from rfl, show ((5 : Nat) : Int) = 5 from rfl, show ((7 : Nat) : Int) = 7 from rfl] at HC
  clear h5 h5'
  go_wp2_with fail
  refine (unhide HC).mono ?_
  rintro e x6 ⟨rfl, h6, -⟩
  have h6' : TSt w x6 b jb pb tb (fun x => x = tb) 19 83 4 true LL AA hn aw0 aw3 := h6
  have HC := hide (h6'.commit (by have := unhide HA; omega))
  clear h6 h6'
  go_wp2_with fail
  refine (unhide HC).mono ?_
  rintro e x7 ⟨rfl, ⟨L2, A2, hA2, h7⟩, -⟩
  have HC := hide (h7.get_ok 0 (by decide) (show (aw3 0).th = true from rfl))
  simp only [show ((0 + 1 : Nat) : Int) = 1 from rfl] at HC
  clear h7 hA2
  go_wp2_with fail
  refine (unhide HC).mono ?_
  rintro e x8 ⟨v, rfl, hv, h8, -⟩
  obtain ⟨g, cp, rfl, c0, c1⟩ := one_vol (show x8.ownsRow x7.heap.size 100 2 v 1 [.int .i64 5, .int .i64 7] from hv)
  rw [show ((aw3 0).q : Int) = 83 from rfl, show ((aw3 0).c : Int) = 3 from rfl]
  have HB := hide h8.bel
  obtain ⟨h9, hh9⟩ : ∃ xx, x8.heap.size = xx := ⟨_, rfl⟩
  obtain ⟨x9, hx9⟩ : ∃ xx, x8.alloc (.cells #[.int .i64 1, .int .i64 83, .int .i64 3, .slice (some ⟨g, 0, none⟩) 1 cp] 35) = xx := ⟨_, rfl⟩
  have B9 : Blk x9 h9 #[.int .i64 1, .int .i64 83, .int .i64 3, .slice (some ⟨g, 0, none⟩) 1 cp] 35 := by rw [← hx9, ← hh9]; exact Blk.new x8 _ _
  have d0 : x9.cell? ⟨h9, 0, none⟩ = some (.int .i64 1) := B9.cell 0
  have d1 : x9.cell? ⟨h9, 1, none⟩ = some (.int .i64 83) := B9.cell 1
  have d2 : x9.cell? ⟨h9, 2, none⟩ = some (.int .i64 3) := B9.cell 2
  have d3 : x9.cell? ⟨h9, 3, none⟩ = some (.slice (some ⟨g, 0, none⟩) 1 cp) := B9.cell 3
  have hb9 : Below x8.heap.size x8 x9 := by rw [← hx9]; exact (Below.refl _ x8).alloc (Nat.le_refl _) _
  have e0 : x9.cell? ⟨g, 0, none⟩ = some (.int .i64 5) := (hb9.cell (p := ⟨g, 0, none⟩) (World.block_lt_of_cell? x8 _ c0)).trans c0
  have e1 : x9.cell? ⟨g, 1, none⟩ = some (.int .i64 7) := (hb9.cell (p := ⟨g, 1, none⟩) (World.block_lt_of_cell? x8 _ c1)).trans c1
  have HBF := hide ((unhide HB).trans (hb9.mono (unhide HB).size))
  have hq := eq_V57
  clear hv h8 c0 c1 B9 hb9 HC
  go_wp2
  go_ret
  exact ⟨rfl, unhide HBF⟩
end Go.Proofs.YtbpcgephicmhhaaGreatDoor
