import Derived.Test.YtpcmifmgkccfnaaGreatDoorMv33
import Derived.Test.YtpcmifmgkccfnaaGreatDoorMv23
import Derived.Test.YtpcmifmgkccfnaaGreatDoorMv26
namespace Go.Proofs.YtpcmifmgkccfnaaGreatDoor
open Go.RowKit Go.Maps Go.Sort Go.Shelf
set_option maxRecDepth 100000
/-- What is laid down, from sector a on: the first m of l. -/
def prN (a : Nat) (l : List ByteArray) (m : Nat) : List (Nat × ByteArray) := (List.range m).map fun i => (a + i, l.getD i ByteArray.empty)
theorem prN_succ (a : Nat) (l : List ByteArray) (m : Nat) : prN a l (m + 1) = prN a l m ++ [(a + m, l.getD m ByteArray.empty)] := by simp [prN, List.range_succ]
theorem prN_len (a : Nat) (l : List ByteArray) (m : Nat) : (prN a l m).length = m := by simp [prN]
def prA (a m : Nat) : List (Nat × Nat) := (List.range m).map fun i => (0, a + i)
theorem prA_len (a m : Nat) : (prA a m).length = m := by simp [prA]
theorem prA_succ (a m : Nat) : prA a (m + 1) = prA a m ++ [(0, a + m)] := by simp [prA, List.range_succ]
def layS (a : Nat) (l : List ByteArray) (m : Nat) : DSt := ⟨L0, layP L0 (prN a l m), prN a l m, A0 ++ prA a m, 0, false⟩
/-- The disk behind laid. -/
def ldL (a : Nat) (l : List ByteArray) : List ByteArray := layP L0 (prN a l l.length)
def ldA (a : Nat) (l : List ByteArray) : List (Nat × Nat) := A0 ++ prA a l.length ++ [(1, 0)]
theorem layS_write (a : Nat) (l : List ByteArray) (m : Nat) (h : a + m < 128) (ht : (l.getD m ByteArray.empty).size = 256) : writeE (layS a l m) ((a + m : Nat) : Int) (l.getD m ByteArray.empty) = 0 ∧ writeS (layS a l m) ((a + m : Nat) : Int) (l.getD m ByteArray.empty) = layS a l (m + 1) := by
  obtain ⟨h1, h2⟩ := writeA (s := layS a l m) ⟨rfl, rfl⟩ (a + m) (by show a + m < L0.length; rw [L0_len]; exact h) _ ht
  refine ⟨h1, ?_⟩
  rw [h2]
  unfold layS
  simp only
  rw [prN_succ, prA_succ, layP_app, List.append_assoc]
  rfl
theorem layS_flush (a : Nat) (l : List ByteArray) : flushE (layS a l l.length) = 0 ∧ flushS (layS a l l.length) = rs (ldL a l) (ldA a l) := by
  obtain ⟨h1, h2⟩ := flushA (s := layS a l l.length) ⟨rfl, rfl⟩
  exact ⟨h1, by rw [h2]; rfl⟩

theorem pr_pair (a : Nat) (l : List ByteArray) (m : Nat) : (prN a l m).Pairwise (fun x y => x.1 ≠ y.1) := by
  unfold prN
  refine List.pairwise_map.2 ((List.nodup_range (n := m)).imp (fun h => ?_))
  simp only
  omega
theorem ld_at (a : Nat) (l : List ByteArray) (h : a + l.length ≤ 128) (k : Nat) (hk : k < l.length) : (ldL a l).getD (a + k) ByteArray.empty = l.getD k ByteArray.empty :=
  layP_in _ _ _ _ (pr_pair a l _) (List.mem_map.2 ⟨k, List.mem_range.2 hk, rfl⟩) (by rw [L0_len]; omega)
theorem ld_head (a : Nat) (l : List ByteArray) (h : 19 ≤ a) : (ldL a l).getD 1 ByteArray.empty = headB 0 [] := by
  unfold ldL
  rw [layP_skip _ _ _ (fun p hp => by
    obtain ⟨i, _, rfl⟩ := List.mem_map.1 hp
    simp only
    omega)]
  exact head0
theorem ld_len (a : Nat) (l : List ByteArray) : (ldL a l).length = 128 := by unfold ldL; rw [layP_len, L0_len]
theorem ld_size (a : Nat) (l : List ByteArray) (hz : ∀ i, i < l.length → (l.getD i ByteArray.empty).size = 256) : ∀ t ∈ ldL a l, t.size = 256 :=
  layP_size _ _ L0_size (fun p hp => by
    obtain ⟨i, hi, rfl⟩ := List.mem_map.1 hp
    exact hz i (List.mem_range.1 hi))
theorem ldA_len (a : Nat) (l : List ByteArray) : (ldA a l).length = l.length + 3 := by
  unfold ldA
  rw [List.length_append, List.length_append, prA_len]
  show 2 + l.length + 1 = _
  omega

theorem results_tmp4 {fn : Func} {t u v x : Tmp} (h : fn.results = #[.tmp t, .tmp u, .tmp v, .tmp x]) (tmps : Array Value) (P : Program) (w : World) :
    (results fn tmps).run P w = .ok (.tuple #[tmps.getD t undef, tmps.getD u undef, tmps.getD v undef, tmps.getD x undef]) w := by
  simp [results, h]
theorem DF.write {w0 w : World} {b : Nat} {s : DSt} {X : Nat → Prop} (h : DF w0 w b s X) (hp : s.pend.length ≤ 1000000000) (ha : s.acts.length ≤ 1000000000) (i : Int) (t : ByteArray) :
    Calls Tryz.prog 22 #[.pointer (some ⟨b, 0, none⟩), .int .i64 i, .string t] w fun e w' => e = .returned (.int .i64 (writeE s i t)) ∧ DF w0 w' b (writeS s i t) X ∧ Only (fun x => ¬ X x) w w' := by
  obtain ⟨v, h1, h2, h3, h4⟩ := h
  refine (write_any w _ b v s h1 h2.size h3 hp ha i t).mono ?_
  rintro e w' ⟨rfl, hP⟩
  exact ⟨rfl, DF.dpost h1 h2 (h3.write i t) h4 hP⟩
/-- The pages of a table of nobody. -/
def pgN (m : Nat) : List ByteArray := (List.range m).map fun k => pgR (k + 1) Rc0
theorem pgN_len (m : Nat) : (pgN m).length = m := by simp [pgN]
theorem pgN_succ (m : Nat) : strs (pgN (m + 1)) = strs (pgN m) ++ [.string (pgR (m + 1) Rc0)] := by simp [pgN, strs, List.range_succ]
theorem pgN_at (m k : Nat) (h : k < m) : (pgN m).getD k ByteArray.empty = pgR (k + 1) Rc0 := by simp [pgN, List.getD_eq_getElem?_getD, h]
theorem pgN_size (i : Nat) (hi : i < 8) : ((pgN 8).getD i ByteArray.empty).size = 256 := by rw [pgN_at _ _ hi]; exact pgR_size _ _ (by omega)
def InTT (w : World) (m : Nat) (u : Value) (wr : World) : Prop := wr.ownsRow w.heap.size 9 1 u m (strs (pgN m)) ∧ Below w.heap.size w wr
theorem ts_zero (a : Nat) (h : a + 8 ≤ 128) : TS (ldL a (pgN 8)) a (fun _ => Rc0) := fun k hk => by
  rw [ld_at a _ (by rw [pgN_len]; exact h) k (by rw [pgN_len]; exact hk), pgN_at _ _ hk]
  exact ⟨rfl, ROk.zero⟩
set_option maxRecDepth 100000 in
set_option maxHeartbeats 2000000 in
theorem tinit_any (w : World) : Calls Tryz.prog 21 #[] w fun e w' => ∃ v, e = .returned v ∧ InTT w 8 v w' := by
  obtain ⟨i0, hi, hz0, hz1, hz2⟩ := info_parts infoS
  have HI := hide (And.intro hi (And.intro hz0 (And.intro hz1 hz2)))
  clear hi hz0 hz1 hz2
  have HZ := hide rV_zero
  go_enter Tryz.func21, Tryz.ntmps21
  go_wp2
  go_loopw [1, 3, 2] (fun u i _ wr => ∃ k : Nat, k ≤ 8 ∧ i = .int .i64 (k : Int) ∧ InTT w k u wr) (fun _ i _ _ => 8 - (intOf i).toNat)
  case atStart => exact ⟨0, by omega, rfl, World.ownsRow_nil _ _ _ _, Below.refl _ _⟩
  case round =>
    obtain ⟨k, hk, rfl, hR, hB⟩ := hrel
    obtain ⟨wo, rfl⟩ : ∃ wo, wo = wr := ⟨_, rfl⟩
    obtain ⟨pv, cv, rfl, hcv⟩ := row_form hR
    by_cases hkn : k < 8
    · have hkn' : (k : Int) < 8 := by omega
      have HR := hide hR
      have HB := hide hB
      clear hR hB hcv
      have HSE := hide (sectorOf_any (k + 1) (by omega) Rc0 ROk.zero wo)
      rw [unhide HZ] at HSE
      obtain ⟨tt, ht⟩ : ∃ xx, pgR (k + 1) Rc0 = xx := ⟨_, rfl⟩
      rw [ht] at HSE
      have HT := hide ht
      have e1 : (k : Int) + 1 = ((k + 1 : Nat) : Int) := by omega
      have hwk : IntKind.i64.wrap ((k + 1 : Nat) : Int) = ((k + 1 : Nat) : Int) := wrapI_eq _ (by omega) (by omega)
      generalize hkk : ((k + 1 : Nat) : Int) = kk at *
      have HKK := hide hkk.symm
      clear ht hkk
      go_wp2_with fail
      refine (unhide HSE).mono ?_
      rintro e y2 ⟨rfl, hb2⟩
      have HRA := hide (show (y2.alloc (.cells #[.string tt] 9)).ownsRow w.heap.size 9 1 (.slice pv k cv) k (strs (pgN k)) from (owns_only (unhide HR) (Only.of_below (P := fun _ => False) hb2) (fun _ _ q => q)).alloc _)
      have HXB := hide ((unhide HB).trans ((hb2.alloc hb2.size (.cells #[.string tt] 9)).mono (unhide HB).size))
      clear hb2 HSE
      go_wp2_with (refine wpList_append_own _ rfl (.tmp 6) (.tmp 11) 58 rfl w.heap.size 9 i0 (.string ⟨#[]⟩) 1 16 Tryz.underlying58 (unhide HI).1 (unhide HI).2.1 (unhide HI).2.2.1 (unhide HI).2.2.2 rfl (by decide) _ k (strs (pgN k)) rfl (unhide HRA) ⟨y2.heap.size, 0, none⟩ 1 1 [.string tt] rfl rfl (fun q u hu => news_one y2 9 _ q u hu) (by simp [Value.oneCell']) (by unfold maxLen; omega) (by omega) (unhide HXB).size ?_)
      intro v5 x5 ho5 hg5 _
      have HRR := hide (show InTT w (k + 1) v5 x5 from ⟨by rw [pgN_succ, unhide HT]; exact ho5, (unhide HXB).grown hg5 (unhide HXB).size (fun q hq => ((unhide HRA).lt q hq).1)⟩)
      clear ho5 hg5 HRA HXB HT
      go_wp2
      go_roundw
      case rel => exact ⟨k + 1, by omega, by rw [unhide HKK], unhide HRR⟩
      case measure => simp [intOf]; have := unhide HKK; omega
    · have hke : k = 8 := by omega
      have hkn' : ¬ (k : Int) < 8 := by omega
      have HF := hide (show InTT w 8 (.slice pv k cv) wo from ⟨by rw [← hke]; exact hR, hB⟩)
      clear hR hB hcv hke
      go_wp2
      go_ret
      exact ⟨_, rfl, unhide HF⟩
set_option maxRecDepth 100000 in
set_option maxHeartbeats 2000000 in
theorem tlaid_any (a : Nat) (h19 : 19 ≤ a) (h128 : a + 8 ≤ 128) (w : World) : Calls Tryz.prog 5 #[.int .i64 (a : Int)] w fun e w' => ∃ b, e = .returned (.pointer (some ⟨b, 0, none⟩)) ∧ DI w w' b (rs (ldL a (pgN 8)) (ldA a (pgN 8))) := by
  have HNW := hide (new128 w)
  have ha0 : (0 : Int) < (a : Int) := by omega
  go_enter Tryz.func5, Tryz.ntmps5
  go_wp2_with fail
  refine (unhide HNW).mono ?_
  rintro e x1 ⟨b, rfl, v, h1, h5, h6⟩
  have HF := hide (format_any x1 w.heap.size b v _ h1 h5.size h6 (Nat.zero_le _) (Nat.zero_le _))
  rw [format_rs] at HF
  have H1 := hide (And.intro h1 (And.intro h5 h6))
  clear h1 h5 h6 HNW
  go_wp2_with fail
  refine (unhide HF).mono ?_
  rintro e x2 ⟨rfl, v2, k1, k2, k3⟩
  have hb2 := DI.only (unhide H1).1 (unhide H1).2.1 k2
  have hS2 : Sane (rs L0 A0) := by
    have := layR_sane [(1, headB 0 [])] _ (unhide H1).2.2
    rw [format_rs] at this
    exact this
  have X2 := hide (And.intro k1 (And.intro hb2 hS2))
  clear k1 k2 k3 hb2 hS2 H1 HF
  go_wp2_with fail
  refine (tinit_any _).mono ?_
  rintro e x3 ⟨u, rfl, hU, hb3⟩
  have hU' : x3.ownsRow x2.heap.size 9 1 u (pgN 8).length (strs (pgN 8)) := by rw [pgN_len]; exact hU
  obtain ⟨pv, cv, rfl, hst⟩ := Strs.ownB hU'
  obtain ⟨gv, ov, rfl, _, _, _⟩ := hst 0 (by rw [pgN_len]; decide)
  obtain ⟨g2, hg2⟩ : ∃ xx, x2.heap.size = xx := ⟨_, rfl⟩
  obtain ⟨g4, hg4⟩ : ∃ xx, x3.heap.size = xx := ⟨_, rfl⟩
  have HR := hide (show (g2 ≤ gv ∧ gv < g4) ∧ (∀ j, j < 8 → x3.cell? ⟨gv, ov + j, none⟩ = some (.string ((pgN 8).getD j ByteArray.empty))) from ⟨⟨by omega, by omega⟩, fun j hj => by
      obtain ⟨g, oo, q1, q2, q3, q4⟩ := hst j (by rw [pgN_len]; exact hj)
      cases q1
      exact q4⟩)
  have X3 := hide (show DF w x3 b (layS a (pgN 8) 0) (fun x => g2 ≤ x ∧ x < g4) ∧ Only (fun x => ¬ (g2 ≤ x ∧ x < g4)) x3 x3 from ⟨⟨v2, (unhide X2).1.below hb3, (unhide X2).2.1.trans (hb3.mono (unhide X2).2.1.size), (unhide X2).2.2, fun x hx => ⟨fun q => by have := ((unhide X2).1.fd x q).2; omega, by omega⟩⟩, Only.refl _ _⟩)
  rw [pgN_len]
  clear hU hU' hst hb3 hg2 hg4 X2
  go_wp2
  go_loopw [7] (fun i wr => ∃ k : Nat, k ≤ 8 ∧ i = .int .i64 (k : Int) ∧ DF w wr b (layS a (pgN 8) k) (fun x => g2 ≤ x ∧ x < g4) ∧ Only (fun x => ¬ (g2 ≤ x ∧ x < g4)) x3 wr) (fun i _ => 8 - (intOf i).toNat)
  case atStart => exact ⟨0, by omega, rfl, (unhide X3).1, (unhide X3).2⟩
  case round =>
    obtain ⟨k, hk, rfl, hD, hO⟩ := hrel
    obtain ⟨wo, rfl⟩ : ∃ wo, wo = wr := ⟨_, rfl⟩
    clear X3
    by_cases hkn : k < 8
    · have hkn' : (k : Int) < 8 := by omega
      have hdk : decide ((k : Int) < 8) = true := decide_eq_true hkn'
      have hk0 : (0 : Int) ≤ (k : Int) := by omega
      obtain ⟨hgl, cga⟩ := unhide HR
      have cg := cga k hkn
      have cg' : wo.cell? ⟨gv, ov + k, none⟩ = some (.string ((pgN 8).getD k ByteArray.empty)) := (World.cell?_of_block (a := ⟨gv, ov + k, none⟩) (hO.2 gv (World.block_lt_of_cell? x3 _ cg) (fun q => q hgl))).trans cg
      have HWR := hide (hD.write (by show (prN a (pgN 8) k).length ≤ _; rw [prN_len]; omega) (by show (A0 ++ prA a k).length ≤ _; rw [List.length_append, prA_len]; have : A0.length = 2 := rfl; omega) ((a + k : Nat) : Int) ((pgN 8).getD k ByteArray.empty))
      obtain ⟨w1, w2⟩ := layS_write a (pgN 8) k (by omega) (pgN_size k hkn)
      rw [w1, w2] at HWR
      have e1 : (a : Int) + (k : Int) = ((a + k : Nat) : Int) := by omega
      have hq : a + k ≤ 1000 := by omega
      have HO := hide hO
      clear hD w1 w2 cg cga hO hgl
      generalize a + k = ak at *
      generalize (pgN 8).getD k ByteArray.empty = tt at cg' HWR
      go_wp2_with fail
      refine (unhide HWR).mono ?_
      rintro e y1 ⟨rfl, hD1, hO1⟩
      have HF := hide (And.intro hD1 ((unhide HO).trans hO1 (fun _ _ q => q)))
      clear hD1 hO1 HWR HO
      go_wp2
      go_roundw
      case rel => exact ⟨k + 1, by omega, by go_num, (unhide HF).1, (unhide HF).2⟩
      case measure => simp [intOf]; omega
    · have hke : k = 8 := by omega
      have hkn' : ¬ (k : Int) < 8 := by omega
      have hdk : decide ((k : Int) < 8) = false := decide_eq_false hkn'
      have hD' := hD.di
      rw [hke, show (8 : Nat) = (pgN 8).length from (pgN_len 8).symm] at hD'
      have HFL := hide (flushD hD' (by show (prN a _ (pgN 8).length).length ≤ _; rw [prN_len, pgN_len]; decide) (by show (A0 ++ prA a (pgN 8).length).length ≤ _; rw [List.length_append, prA_len, pgN_len]; decide))
      rw [pgN_len] at HFL
      have hfl := layS_flush a (pgN 8)
      rw [pgN_len] at hfl
      rw [hfl.1, hfl.2] at HFL
      clear hD hD' hO hfl hke
      go_wp2_with fail
      refine (unhide HFL).mono ?_
      rintro e y1 ⟨rfl, hD1⟩
      have HF := hide hD1
      clear hD1 HFL
      go_wp2
      go_ret
      exact ⟨b, rfl, unhide HF⟩
/-- A pool that was opened. -/
def PoolT (w0 : World) (b a kp : Nat) (R : List ByteArray → List (Nat × Nat) → (Nat → Rc) → Prop) (e : Ending) (w' : World) : Prop :=
  ∃ jb pb S L A n0 T, e = .returned (.tuple #[.pointer (some ⟨pb, 0, none⟩), .int .i64 0]) ∧ PK w0 w' b jb pb S (fun _ => False) ∧ Seen S L A n0 L L ∧ S.op = false ∧ (S.tx = [] ∧ S.keep = kp) ∧ TS L a T ∧ R L A T
theorem tpopen_rest {w0 w : World} {b : Nat} {v : DV} {L : List ByteArray} {A : List (Nat × Nat)} {a : Nat} {T : Nat → Rc} (h : Dk w w0.heap.size b v (rs L A)) (h0 : Below w0.heap.size w0 w) (hg : ETy w) (hS : Sane (rs L A)) (n0 : Nat) (hn0 : n0 < 4294967296) (hL : L.length = 128) (hz : ∀ t ∈ L, t.size = 256) (hh : L.getD 1 ByteArray.empty = headB n0 []) (ha : A.length ≤ 10000000) (keep : Nat) (hk : keep ≤ 64) (hm : TS L a T) (R : List ByteArray → List (Nat × Nat) → (Nat → Rc) → Prop) (hR : R L A T) :
    Calls Tryz.prog 8 #[.pointer (some ⟨b, 0, none⟩), .int .i64 (keep : Int)] w (PoolT w0 b a keep R) := by
  have hO := open_clear h hg h0.size hS n0 hn0 (by omega) hh ha
  refine (popen_any w b keep hk (fun jp ag er w1 => er = 0 ∧ ∃ jb, jp = some ⟨jb, 0, none⟩ ∧ JK w0 w1 b jb (rs L A) ((n0 + 1) % 4294967296) false (fun _ => False)) (hO.mono (fun e w1 q => by
    obtain ⟨jb, rfl, hJ⟩ := q
    exact ⟨_, _, _, rfl, rfl, jb, rfl, JI.jk (JNew.ji h h0 hS hJ)⟩))).mono ?_
  rintro e w' ⟨jp, ag, er, w1, ⟨rfl, jb, rfl, hJ⟩, q | ⟨_, pb, bw, bv, rfl, hP⟩⟩
  · exact absurd rfl q.1
  · exact ⟨jb, pb, restP L A ((n0 + 1) % 4294967296) keep, L, A, n0, T, rfl, POk.pk hJ hk hP, ⟨⟨rfl, rfl, rfl, rfl⟩, hL, hz, hh, hn0, fun k _ _ => rfl, hL, hL, fun k _ _ => rfl, fun _ => rfl, fun p hp => by cases hp⟩, rfl, ⟨rfl, rfl⟩, hm, hR⟩
end Go.Proofs.YtpcmifmgkccfnaaGreatDoor

namespace Go.Proofs.YtpcmifmgkccfnaaGreatDoor
open Go.RowKit Go.Maps Go.Sort Go.Shelf
set_option maxRecDepth 100000
/-- no page of tenant's -/
def NoT (t : ByteArray) : Prop := t.size = 256 ∧ (prOk t → pkd t ≠ 5)
def zRec : Array Value := #[.bool false, .int .i64 0, .int .i64 0, .int .i64 0, .int .i64 0, .int .i64 0, .int .i64 0, .int .i64 0, .int .i64 0, .int .i64 0, .int .i64 0, .int .i64 0, .int .i64 0, .int .i64 0, .int .i64 0, .int .i64 0, .int .i64 0, .int .i64 0, .int .i64 0, .int .i64 0]
theorem zRec_size : zRec.size = 20 := rfl
theorem zRec_one : zRec.all (·.oneCell') = true := by kernel_rfl
theorem zRec_arr : zRec.toList.toArray = zRec := by simp
theorem pkd_zero : pkd zero256 = 0 := by kernel_rfl
theorem noT_zero : NoT zero256 := ⟨by kernel_rfl, fun _ => by rw [pkd_zero]; decide⟩
theorem head_parse : prOk (headB 0 []) ∧ pkd (headB 0 []) = 2 ∧ pnm (headB 0 []) = 0 ∧ pbd (headB 0 []) = ⟨#[0]⟩ := by
  obtain ⟨hE, hM⟩ := headB_make 0 [] (by decide) (by simp)
  obtain ⟨p1, p2, p3, p4⟩ := make_parse 2 ((0 : Nat) : Int) (strOfNums (headL [])) hE
  rw [← hM] at p1 p2 p3 p4
  exact ⟨p1, p2, p3, p4.trans (by rw [headL_nil]; rfl)⟩
theorem noT_head : NoT (headB 0 []) := ⟨(prOk_size _ head_parse.1).1, fun _ => by rw [head_parse.2.1]; decide⟩
theorem noT_L0 (i : Nat) (hi : i < 128) : NoT (L0.getD i ByteArray.empty) := by
  by_cases h1 : i = 1
  · subst h1
    rw [head0]
    exact noT_head
  · have : L0.getD i ByteArray.empty = zero256 := by
      unfold L0
      rw [List.getD_eq_getElem?_getD, List.getElem?_set_ne (by omega), List.getElem?_replicate, if_pos hi]
      rfl
    rw [this]
    exact noT_zero
set_option maxHeartbeats 2000000 in
theorem tlaid0 (w : World) : Calls Tryz.prog 5 #[.int .i64 0] w fun e w' => ∃ b, e = .returned (.pointer (some ⟨b, 0, none⟩)) ∧ DI w w' b (rs L0 (A0 ++ [(1, 0)])) := by
  have HNW := hide (new128 w)
  go_enter Tryz.func5, Tryz.ntmps5
  go_wp2_with fail
  refine (unhide HNW).mono ?_
  rintro e x1 ⟨b, rfl, v, h1, h5, h6⟩
  have HF := hide (format_any x1 w.heap.size b v _ h1 h5.size h6 (Nat.zero_le _) (Nat.zero_le _))
  rw [format_rs] at HF
  have H1 := hide (And.intro h1 (And.intro h5 h6))
  clear h1 h5 h6 HNW
  go_wp2_with fail
  refine (unhide HF).mono ?_
  rintro e x2 ⟨rfl, v2, k1, k2, k3⟩
  have hb2 := DI.only (unhide H1).1 (unhide H1).2.1 k2
  have hS2 : Sane (rs L0 A0) := by
    have := layR_sane [(1, headB 0 [])] _ (unhide H1).2.2
    rw [format_rs] at this
    exact this
  have hD : DI w x2 b (rs L0 A0) := ⟨v2, k1, hb2, hS2⟩
  have HFL := hide (flushD hD (by decide) (by decide))
  obtain ⟨f1, f2⟩ := flushA (s := rs L0 A0) ⟨rfl, rfl⟩
  rw [f1, f2] at HFL
  clear k1 k2 k3 hb2 hS2 H1 HF hD f1 f2
  go_wp2_with fail
  refine (unhide HFL).mono ?_
  rintro e y1 ⟨rfl, hD1⟩
  have HF := hide hD1
  clear hD1 HFL
  go_wp2
  go_ret
  exact ⟨b, rfl, unhide HF⟩
theorem jopenX {w0 w : World} {b : Nat} {v : DV} {L : List ByteArray} {A : List (Nat × Nat)} {X : Nat → Prop} (h : Dk w w0.heap.size b v (rs L A)) (hB : Below w0.heap.size w0 w) (hX : ∀ x, X x → ¬ Fd b v x ∧ x < w.heap.size) (hg : ETy w) (hS : Sane (rs L A)) (n : Nat) (hn : n < 4294967296) (hL : 1 < L.length) (hh : L.getD 1 ByteArray.empty = headB n []) (ha : A.length ≤ 10000000) :
    Calls Tryz.prog 27 #[.pointer (some ⟨b, 0, none⟩)] w fun e w' => ∃ jb, e = .returned (.tuple #[.pointer (some ⟨jb, 0, none⟩), .bool false, .int .i64 0]) ∧ JK w0 w' b jb (rs L A) ((n + 1) % 4294967296) false X ∧ Only (fun x => ¬ X x) w w' := by
  refine (open_clear h hg hB.size hS n hn hL hh ha).mono ?_
  rintro e w' ⟨jb, rfl, v', k1, k2, k3, k4, k5, k6⟩
  have hf : ∀ x, X x → ¬ Fd b v x := fun x hx => (hX x hx).1
  refine ⟨jb, rfl, ⟨v', k1, k2, k3, Nat.le_trans hB.size k4, DI.only h hB k5, hS, fun x hx => ⟨fun q => ?_, ?_, ?_⟩⟩, k5.widen (fun k _ q r => hf k r q)⟩
  · rcases k6 x q with r | r
    · exact hf x hx r
    · have := (hX x hx).2; omega
  · have := (hX x hx).2; omega
  · have := (hX x hx).2
    have := k5.size
    omega
theorem tpopen0 {w0 w : World} {b : Nat} {v : DV} {L : List ByteArray} {A : List (Nat × Nat)} {X : Nat → Prop} (h : Dk w w0.heap.size b v (rs L A)) (hB : Below w0.heap.size w0 w) (hX : ∀ x, X x → ¬ Fd b v x ∧ x < w.heap.size) (hg : ETy w) (hS : Sane (rs L A)) (n : Nat) (hn : n < 4294967296) (hL : 1 < L.length) (hh : L.getD 1 ByteArray.empty = headB n []) (ha : A.length ≤ 10000000) (keep : Nat) (hk : keep ≤ 64) :
    Calls Tryz.prog 8 #[.pointer (some ⟨b, 0, none⟩), .int .i64 (keep : Int)] w fun e w' => ∃ jb pb, e = .returned (.tuple #[.pointer (some ⟨pb, 0, none⟩), .int .i64 0]) ∧ PK w0 w' b jb pb (restP L A ((n + 1) % 4294967296) keep) X ∧ Only (fun x => ¬ X x) w w' := by
  have hO := jopenX h hB hX hg hS n hn hL hh ha
  refine (popen_any w b keep hk (fun jp ag er w1 => er = 0 ∧ ∃ jb, jp = some ⟨jb, 0, none⟩ ∧ JK w0 w1 b jb (rs L A) ((n + 1) % 4294967296) false X ∧ Only (fun x => ¬ X x) w w1) (hO.mono (fun e w1 q => by
    obtain ⟨jb, rfl, hJ, hO⟩ := q
    exact ⟨_, _, _, rfl, rfl, jb, rfl, hJ, hO⟩))).mono ?_
  rintro e w' ⟨jp, ag, er, w1, ⟨rfl, jb, rfl, hJ, hO1⟩, q | ⟨_, pb, bw, bv, rfl, hP⟩⟩
  · exact absurd rfl q.1
  · exact ⟨jb, pb, rfl, POk.pk hJ hk hP, hO1.trans (Only.of_below (P := fun x => ¬ X x) hP.2.2.2.2.2.2.2) (fun _ _ q => q)⟩
theorem rest_read (L : List ByteArray) (A : List (Nat × Nat)) (nx keep k : Nat) (hk : k < L.length) : (readP (restP L A nx keep) k).1 = L.getD k ByteArray.empty ∧ (readP (restP L A nx keep) k).2.1 = 0 := by
  have hh : hasB (rs L A) (k : Int) = true := by show (decide (0 ≤ (k : Int)) && decide ((k : Int) < (L.length : Int))) = true; simp; omega
  have hr : readE (rs L A) (k : Int) = 0 := (read_rs L A k hk).1
  have hT : readT (rs L A) (k : Int) = L.getD k ByteArray.empty := (read_rs L A k hk).2
  unfold readP
  show ((if hasB (rs L A) (k : Int) = false then _ else _) : ByteArray × Int × PS).1 = _ ∧ ((if hasB (rs L A) (k : Int) = false then _ else _) : ByteArray × Int × PS).2.1 = 0
  rw [hh]
  simp only [Bool.true_eq_false, if_false]
  show ((if readE (rs L A) (k : Int) = 0 then _ else _) : ByteArray × Int × PS).1 = _ ∧ ((if readE (rs L A) (k : Int) = 0 then _ else _) : ByteArray × Int × PS).2.1 = 0
  rw [if_pos hr]
  exact ⟨hT, rfl⟩
set_option maxHeartbeats 2000000 in
theorem recordOf_bad (k : Int) (t : ByteArray) (ht : NoT t) (w : World) (hE : ETy w) : Calls Tryz.prog 74 #[.int .i64 k, .string t] w fun e w' => e = .returned (.tuple #[.agg zRec, .bool false]) ∧ Below w.heap.size w w' := by
  obtain ⟨g, hg⟩ : ∃ g, w.heap.size = g := ⟨_, rfl⟩
  have HPS := hide (fun W (q : ETy W) => parse_any rep_ok t (by rw [ht.1]; decide) W q)
  have HEW := hide (fun W (h : Below g w W) => hE.below h (by rw [← hg]; exact hE.lt))
  have HNT := hide ht.2
  obtain ⟨x2, hx2⟩ : ∃ xx, w.alloc (.cells #[.bool false, .int .i64 0, .int .i64 0, .int .i64 0, .int .i64 0, .int .i64 0, .int .i64 0, .int .i64 0, .int .i64 0, .int .i64 0, .int .i64 0, .int .i64 0, .int .i64 0, .int .i64 0, .int .i64 0, .int .i64 0, .int .i64 0, .int .i64 0, .int .i64 0, .int .i64 0] 88) = xx := ⟨_, rfl⟩
  have BZ : Blk x2 g #[.bool false, .int .i64 0, .int .i64 0, .int .i64 0, .int .i64 0, .int .i64 0, .int .i64 0, .int .i64 0, .int .i64 0, .int .i64 0, .int .i64 0, .int .i64 0, .int .i64 0, .int .i64 0, .int .i64 0, .int .i64 0, .int .i64 0, .int .i64 0, .int .i64 0, .int .i64 0] 88 := by rw [← hx2, ← hg]; exact Blk.new w _ _
  have hb : Below g w x2 := by rw [← hx2, ← hg]; exact (Below.refl _ w).alloc (Nat.le_refl _) _
  have X2 := hide (And.intro BZ hb)
  clear BZ hb hE ht
  rw [hg]
  go_enter Tryz.func74, Tryz.ntmps74
  go_wp2_with fail
  clear hx2
  refine (unhide HPS _ (unhide HEW _ (unhide X2).2)).mono ?_
  rintro e x3 ⟨hpp, hb3⟩
  have HFIN : ∀ x4, Below x3.heap.size x3 x4 → x4.there g 0 zRec.size ∧ Blk (x4.setCells g 0 zRec.toList) g zRec 88 ∧ Below g w (x4.setCells g 0 zRec.toList) := fun x4 h4 => by
    obtain ⟨BZ, hb⟩ := unhide X2
    have BZ3 := BZ.below hb3 BZ.lt
    have BZ4 := BZ3.below h4 BZ3.lt
    have hlt := BZ.lt
    have h5 := hb3.size
    have hb4 := (hb.trans (hb3.mono (by omega))).trans (h4.mono (show g ≤ x3.heap.size by omega))
    exact ⟨blk_there BZ4 zRec.size rfl, by have := setCells_all BZ4 zRec.toList rfl; rwa [zRec_arr] at this, below_setCells (b := g) (Nat.le_refl _) _ 0 hb4⟩
  have HF := hide HFIN
  clear HFIN
  rcases hpp with ⟨hok, rfl⟩ | ⟨hno, rfl⟩
  · have h5 : pkd t ≠ 5 := unhide HNT hok
    generalize pkd t = kd at *
    generalize pnm t = nm at *
    generalize pbd t = bd at *
    obtain ⟨g4, hg4⟩ : ∃ xx, x3.heap.size = xx := ⟨_, rfl⟩
    obtain ⟨x4, hx4⟩ : ∃ xx, x3.alloc (.cells #[.int .i64 kd, .int .i64 nm, .string bd] 140) = xx := ⟨_, rfl⟩
    have B4 : Blk x4 g4 #[.int .i64 kd, .int .i64 nm, .string bd] 140 := by rw [← hx4, ← hg4]; exact Blk.new x3 _ _
    have hb4 : Below x3.heap.size x3 x4 := by rw [← hx4]; exact (Below.refl _ _).alloc (Nat.le_refl _) _
    have a0 : x4.cell? ⟨g4, 0, none⟩ = some (.int .i64 kd) := B4.cell 0
    have h5b : (kd != 5) = true := by simpa using h5
    obtain ⟨TH, B7, hb7⟩ := unhide HF x4 hb4
    have HTH := hide TH
    obtain ⟨x7, hx7⟩ : ∃ Z, x4.setCells g 0 zRec.toList = Z := ⟨_, rfl⟩
    rw [hx7] at B7 hb7
    have HX7 := hide hx7
    have HLD := hide (iload_blk 88 _ B7 Tryz.underlying88 rfl (by rw [sizeRec, zRec_size]))
    have HB7 := hide hb7
    clear hx7
    clear TH B7 hb7 hb4 B4 hb3 HF X2 HPS HEW HNT h5
    go_wp2_with (refine wpList_store_mid rfl 88 (.tmp 4) (.tmp 26) rfl g 0 zRec rfl rfl (unhide HTH) (by rw [sizeRec, zRec_size]) zRec_one ?_; rw [unhide HX7])
    exact bodyPost_ret (v := .tuple #[.agg zRec, .bool false]) (results_cell2 (p := 4) (q := 5) (ty := 88) rfl _ _ _ ⟨g, 0, none⟩ rfl _ (unhide HLD)) rfl ⟨rfl, unhide HB7⟩
  · have hb4 : Below x3.heap.size x3 (x3.alloc (.cells #[.int .i64 0, .int .i64 0, .string ⟨#[]⟩] 140)) := (Below.refl _ _).alloc (Nat.le_refl _) _
    obtain ⟨TH, B7, hb7⟩ := unhide HF _ hb4
    have HTH := hide TH
    obtain ⟨x7, hx7⟩ : ∃ Z, (x3.alloc (.cells #[.int .i64 0, .int .i64 0, .string ⟨#[]⟩] 140)).setCells g 0 zRec.toList = Z := ⟨_, rfl⟩
    rw [hx7] at B7 hb7
    have HX7 := hide hx7
    have HLD := hide (iload_blk 88 _ B7 Tryz.underlying88 rfl (by rw [sizeRec, zRec_size]))
    have HB7 := hide hb7
    clear hx7
    clear TH B7 hb7 hb4 hb3 HF X2 HPS HEW HNT hno
    go_wp2_with (refine wpList_store_mid rfl 88 (.tmp 4) (.tmp 26) rfl g 0 zRec rfl rfl (unhide HTH) (by rw [sizeRec, zRec_size]) zRec_one ?_; rw [unhide HX7])
    exact bodyPost_ret (v := .tuple #[.agg zRec, .bool false]) (results_cell2 (p := 4) (q := 5) (ty := 88) rfl _ _ _ ⟨g, 0, none⟩ rfl _ (unhide HLD)) rfl ⟨rfl, unhide HB7⟩
end Go.Proofs.YtpcmifmgkccfnaaGreatDoor

namespace Go.Proofs.YtpcmifmgkccfnaaGreatDoor
open Go.RowKit Go.Maps Go.Sort Go.Shelf
set_option maxRecDepth 100000
theorem nowP_nil (L : List ByteArray) (i : Nat) : nowP L [] i = L.getD i ByteArray.empty := rfl
set_option maxHeartbeats 2000000 in
/-- the document's Open of a journal whose head is clear -/
theorem rjopen0 {w : World} {base b : Nat} {v : RV} {L : List ByteArray} {A : List (Nat × Nat)} (h : Rk w base b v (rs L A)) (hL : L.length = 128) (hh : L.getD 1 ByteArray.empty = headB 0 []) :
    Calls Tryz.prog 29 #[.pointer (some ⟨b, 0, none⟩)] w fun e w' => ∃ jb, e = .returned (.tuple #[.pointer (some ⟨jb, 0, none⟩), .bool false, .int .i64 0]) ∧ Below w.heap.size w w' := by
  have c3 : w.cell? ⟨b, 3, none⟩ = some (.bool false) := h.blk.cell 3
  have HNW := hide (rnow_any w base b v (rs L A) h (Nat.zero_le _) 1 (by show 1 < L.length; omega))
  rw [show nowP (rs L A).last (rs L A).pend 1 = headB 0 [] from (nowP_nil L 1).trans hh, show ((1 : Nat) : Int) = 1 from rfl] at HNW
  have HPS := hide (fun W => rparse_any (headB 0 []) W)
  have HHP := hide head_parse
  obtain ⟨ht, hht⟩ : ∃ z, headB 0 [] = z := ⟨_, rfl⟩
  rw [hht] at HNW HPS HHP
  clear h hL hh hht
  go_enter Tryz.func29, Tryz.ntmps29
  go_wp2_with fail
  refine (unhide HNW).mono ?_
  rintro e x1 ⟨rfl, hb1⟩
  have HB1 := hide hb1
  clear hb1 HNW
  go_wp2_with fail
  refine (unhide HPS _).mono ?_
  rintro e x2 ⟨hpp, hb2⟩
  rcases hpp with ⟨-, rfl⟩ | ⟨hno, -⟩
  · rw [(unhide HHP).2.1, (unhide HHP).2.2.1, (unhide HHP).2.2.2]
    have HB2 := hide (show Below w.heap.size w x2 from (unhide HB1).trans (hb2.mono (unhide HB1).size))
    obtain ⟨g4, hg4⟩ : ∃ xx, x2.heap.size = xx := ⟨_, rfl⟩
    obtain ⟨x4, hx4⟩ : ∃ xx, x2.alloc (.cells #[.int .i64 2, .int .i64 0, .string ⟨#[0]⟩] 140) = xx := ⟨_, rfl⟩
    have B4 : Blk x4 g4 #[.int .i64 2, .int .i64 0, .string ⟨#[0]⟩] 140 := by rw [← hx4, ← hg4]; exact Blk.new x2 _ _
    have hb4 : Below w.heap.size w x4 := by rw [← hx4]; exact (unhide HB2).alloc (by have := (unhide HB2).size; omega) _
    have a0 : x4.cell? ⟨g4, 0, none⟩ = some (.int .i64 2) := B4.cell 0
    have a1 : x4.cell? ⟨g4, 1, none⟩ = some (.int .i64 0) := B4.cell 1
    obtain ⟨x5, hx5⟩ : ∃ xx, x4.alloc (.cells #[.pointer (some ⟨b, 0, none⟩), .int .i64 0, .bool false] 150) = xx := ⟨_, rfl⟩
    have B5 : Blk x5 g4 #[.int .i64 2, .int .i64 0, .string ⟨#[0]⟩] 140 := by rw [← hx5]; exact B4.alloc _
    have a2 : x5.cell? ⟨g4, 2, none⟩ = some (.string ⟨#[0]⟩) := B5.cell 2
    have HF := hide (show Below w.heap.size w x5 from by rw [← hx5]; exact hb4.alloc (by have := hb4.size; omega) _)
    clear hb2 B4 hb4 B5 HB1 HB2 HPS HHP
    go_wp2
    go_ret3
    exact ⟨_, rfl, unhide HF⟩
  · exact absurd (unhide HHP).1 hno
set_option maxHeartbeats 2000000 in
theorem rpopen0 {w : World} {base b : Nat} {v : RV} {L : List ByteArray} {A : List (Nat × Nat)} (h : Rk w base b v (rs L A)) (hL : L.length = 128) (hh : L.getD 1 ByteArray.empty = headB 0 []) :
    Calls Tryz.prog 9 #[.pointer (some ⟨b, 0, none⟩), .int .i64 0] w fun e w' => ∃ qb jb, e = .returned (.tuple #[.pointer (some ⟨qb, 0, none⟩), .int .i64 0]) ∧ Blk w' qb #[.pointer (some ⟨b, 0, none⟩), .pointer (some ⟨jb, 0, none⟩), .int .i64 0, .slice none 0 0, .slice none 0 0, .bool false, .bool false, .int .i64 0, .int .i64 0] 81 ∧ w.heap.size ≤ qb ∧ Below w.heap.size w w' := by
  have HJ := hide (rjopen0 h hL hh)
  clear h hL hh
  go_enter Tryz.func9, Tryz.ntmps9
  go_wp2_with fail
  refine (unhide HJ).mono ?_
  rintro e x1 ⟨jb, rfl, hb1⟩
  have HF := hide (show Blk (x1.alloc (.cells #[.pointer (some ⟨b, 0, none⟩), .pointer (some ⟨jb, 0, none⟩), .int .i64 0, .slice none 0 0, .slice none 0 0, .bool false, .bool false, .int .i64 0, .int .i64 0] 81)) x1.heap.size #[.pointer (some ⟨b, 0, none⟩), .pointer (some ⟨jb, 0, none⟩), .int .i64 0, .slice none 0 0, .slice none 0 0, .bool false, .bool false, .int .i64 0, .int .i64 0] 81 ∧ w.heap.size ≤ x1.heap.size ∧ Below w.heap.size w (x1.alloc (.cells #[.pointer (some ⟨b, 0, none⟩), .pointer (some ⟨jb, 0, none⟩), .int .i64 0, .slice none 0 0, .slice none 0 0, .bool false, .bool false, .int .i64 0, .int .i64 0] 81)) from ⟨Blk.new x1 _ _, hb1.size, hb1.alloc hb1.size _⟩)
  clear hb1 HJ
  go_wp2
  go_ret2
  exact ⟨_, jb, rfl, unhide HF⟩
theorem rpsize0 {w : World} {base b jb qb : Nat} {v : RV} {L : List ByteArray} {A : List (Nat × Nat)} (h : Rk w base b v (rs L A)) (hL : L.length = 128) (hq : Blk w qb #[.pointer (some ⟨b, 0, none⟩), .pointer (some ⟨jb, 0, none⟩), .int .i64 0, .slice none 0 0, .slice none 0 0, .bool false, .bool false, .int .i64 0, .int .i64 0] 81) :
    Calls Tryz.prog 34 #[.pointer (some ⟨qb, 0, none⟩)] w fun e w' => e = .returned (.int .i64 128) ∧ w' = w := by
  obtain ⟨p, cp, hv, -⟩ := row_form h.rl
  have c0 : w.cell? ⟨qb, 0, none⟩ = some (.pointer (some ⟨b, 0, none⟩)) := hq.cell 0
  have c1 : w.cell? ⟨b, 0, none⟩ = some (.slice p 128 cp) := by
    have := h.blk.cell 0
    rw [hv] at this
    rw [show (rs L A).last.length = 128 from hL] at this
    exact this
  clear h hq hv hL
  go_enter Tryz.func34, Tryz.ntmps34
  go_wp2
  go_ret
  exact ⟨rfl, rfl⟩
theorem rat_nil (i : Int) (w : World) : Calls Tryz.prog 169 #[.slice none 0 0, .int .i64 i] w fun e w' => e = .returned (.int .i64 (-1)) ∧ w' = w := by
  go_enter Tryz.func169, Tryz.ntmps169
  go_wp2
  go_loopw [5] (fun k wr => k = .int .i64 0 ∧ wr = w) (fun _ _ => 0)
  case atStart => exact ⟨rfl, rfl⟩
  case round =>
    obtain ⟨rfl, rfl⟩ := hrel
    go_wp2
    go_ret
    exact ⟨rfl, rfl⟩
end Go.Proofs.YtpcmifmgkccfnaaGreatDoor
