import Derived.Test.YtjiigapphhekmaaGreatDoorMr35
import Derived.Test.YtjiigapphhekmaaGreatDoorMr33
import Derived.Test.YtjiigapphhekmaaGreatDoorMr24
import Derived.Test.YtjiigapphhekmaaGreatDoorMr23
namespace Go.Proofs.YtjiigapphhekmaaGreatDoor
open Go.RowKit Go.Maps Go.Sort Go.Shelf
def zb : ByteArray := strOfNums (List.replicate 32 0)
theorem zb_size : zb.size = 32 := by rw [zb, strOfNums_size, List.length_replicate]
theorem zb_bit (i : Nat) : bitB zb i = false := by
  have hb : Bytes (List.replicate 32 0) := fun j => by
    rw [List.getD_eq_getElem?_getD, List.getElem?_replicate]
    split <;> simp
  have h : byN zb (i % 256 / 8) = 0 := by
    unfold byN zb
    rw [nums_strOfNums _ hb, List.getD_eq_getElem?_getD, List.getElem?_replicate]
    split <;> rfl
  unfold bitB
  rw [h]
  exact Nat.zero_testBit _
/-- The pages of an empty map. -/
def pgZ (m : Nat) : List ByteArray := (List.range m).map fun k => pgT k zb
theorem pgZ_len (m : Nat) : (pgZ m).length = m := by simp [pgZ]
theorem pgZ_succ (m : Nat) : strs (pgZ (m + 1)) = strs (pgZ m) ++ [.string (pgT m zb)] := by simp [pgZ, strs, List.range_succ]
theorem pgZ_at (m k : Nat) (h : k < m) : (pgZ m).getD k ByteArray.empty = pgT k zb := by simp [pgZ, List.getD_eq_getElem?_getD, h]
def InI (w : World) (m : Nat) (u : Value) (wr : World) : Prop := wr.ownsRow w.heap.size 9 1 u m (strs (pgZ m)) ∧ Below w.heap.size w wr
set_option maxRecDepth 100000 in
set_option maxHeartbeats 2000000 in
theorem minitial_any (n : Nat) (hn1 : 1 ≤ n) (hn2 : n ≤ 1024) (w : World) : Calls Tryz.prog 20 #[.int .i64 (n : Int)] w fun e w' => ∃ v, e = .returned (.tuple #[v, .int .i64 0]) ∧ InI w (pgs n) v w' := by
  obtain ⟨i0, hi, hz0, hz1, hz2⟩ := info_parts infoS
  have HI := hide (And.intro hi (And.intro hz0 (And.intro hz1 hz2)))
  clear hi hz0 hz1 hz2
  have HCN := hide (fun W => isCount_any (n : Int) W)
  rw [decide_eq_true (show (1 : Int) ≤ (n : Int) by omega), decide_eq_true (show (n : Int) ≤ 1024 by omega)] at HCN
  have HPO := hide (fun W => pagesOf_any n hn2 W)
  have h4 := pgs_le hn2
  have HRP := hide (fun W => rep_ok 32 W (by decide))
  have HZB := hide (show strOfNums (List.replicate 32 0) = zb from rfl)
  obtain ⟨Z, hZ⟩ : ∃ Z, strOfNums (List.replicate 32 0) = Z := ⟨_, rfl⟩
  rw [hZ] at HRP HZB
  clear hZ
  simp only [Int.cast_ofNat_Int] at HRP
  generalize pgs n = P0 at *
  go_enter Tryz.func20, Tryz.ntmps20
  go_wp2_with (first | (go_at_call 50; refine (unhide HCN _).mono ?_; rintro e w' ⟨rfl, hw'⟩; subst w') | (go_at_call 40; refine (unhide HPO _).mono ?_; rintro e w' ⟨rfl, hw'⟩; subst w'))
  go_loopw [4, 11] (fun u i wr => ∃ k : Nat, k ≤ P0 ∧ i = .int .i64 (k : Int) ∧ InI w k u wr) (fun _ i _ => P0 - (intOf i).toNat)
  case atStart => exact ⟨0, by omega, rfl, World.ownsRow_nil _ _ _ _, Below.refl _ _⟩
  case round =>
    obtain ⟨k, hk, rfl, hR, hB⟩ := hrel
    obtain ⟨wo, rfl⟩ : ∃ wo, wo = wr := ⟨_, rfl⟩
    obtain ⟨pv, cv, rfl, hcv⟩ := row_form hR
    by_cases hkn : k < P0
    · have hkn' : (k : Int) < (P0 : Int) := by omega
      have HR := hide hR
      have HB := hide hB
      clear hR hB hcv
      go_wp2_with fail
      refine (unhide HRP _).mono ?_
      rintro e y1 ⟨rfl, hb1⟩
      have HSE := hide (sectorOf_any k Z y1)
      have HB1 := hide hb1
      obtain ⟨t, ht⟩ : ∃ t, pgT k Z = t := ⟨_, rfl⟩
      rw [ht] at HSE
      have HT := hide (show pgT k zb = t from by rw [← ht, unhide HZB])
      clear hb1 ht
      go_wp2_with fail
      refine (unhide HSE).mono ?_
      rintro e y2 ⟨rfl, hb2⟩
      have hB2 : Below wo.heap.size wo y2 := (unhide HB1).trans (hb2.mono (unhide HB1).size)
      have HRA := hide (show (y2.alloc (.cells #[.string t] 9)).ownsRow w.heap.size 9 1 (.slice pv k cv) k (strs (pgZ k)) from (owns_only (unhide HR) (Only.of_below (P := fun _ => False) hB2) (fun _ _ q => q)).alloc _)
      have HXB := hide ((unhide HB).trans ((hB2.alloc hB2.size (.cells #[.string t] 9)).mono (unhide HB).size))
      clear hb2 hB2 HSE HB1
      go_wp2_with (refine wpList_append_own _ rfl (.tmp 14) (.tmp 18) 42 rfl w.heap.size 9 i0 (.string ⟨#[]⟩) 1 16 Tryz.underlying42 (unhide HI).1 (unhide HI).2.1 (unhide HI).2.2.1 (unhide HI).2.2.2 rfl (by decide) _ k (strs (pgZ k)) rfl (unhide HRA) ⟨y2.heap.size, 0, none⟩ 1 1 [.string t] rfl rfl (fun q u hu => news_one y2 9 _ q u hu) (by simp [Value.oneCell']) (by unfold maxLen; omega) (by omega) (unhide HXB).size ?_)
      intro v5 x5 ho5 hg5 _
      have HRR := hide (show InI w (k + 1) v5 x5 from ⟨by rw [pgZ_succ, unhide HT]; exact ho5, (unhide HXB).grown hg5 (unhide HXB).size (fun q hq => ((unhide HRA).lt q hq).1)⟩)
      clear ho5 hg5 HRA HXB HT
      go_wp2
      go_roundw
      case rel => exact ⟨k + 1, by omega, by go_num, unhide HRR⟩
      case measure => simp [intOf]; omega
    · have hke : k = P0 := by omega
      have hkn' : ¬ (k : Int) < (P0 : Int) := by omega
      subst hke
      have HF := hide (show InI w k (.slice pv k cv) wo from ⟨hR, hB⟩)
      clear hR hB hcv
      go_wp2
      go_ret2
      exact ⟨_, rfl, unhide HF⟩
/-- What is laid down, from sector a on: the first m of l. -/
def prN (a : Nat) (l : List ByteArray) (m : Nat) : List (Nat × ByteArray) := (List.range m).map fun i => (a + i, l.getD i ByteArray.empty)
theorem prN_succ (a : Nat) (l : List ByteArray) (m : Nat) : prN a l (m + 1) = prN a l m ++ [(a + m, l.getD m ByteArray.empty)] := by simp [prN, List.range_succ]
theorem prN_len (a : Nat) (l : List ByteArray) (m : Nat) : (prN a l m).length = m := by simp [prN]
def prA (a m : Nat) : List (Nat × Nat) := (List.range m).map fun i => (0, a + i)
theorem prA_len (a m : Nat) : (prA a m).length = m := by simp [prA]
theorem prA_succ (a m : Nat) : prA a (m + 1) = prA a m ++ [(0, a + m)] := by simp [prA, List.range_succ]
def layS (a : Nat) (l : List ByteArray) (m : Nat) : DSt := ⟨L0, layP L0 (prN a l m), prN a l m, A0 ++ prA a m, 0, false⟩
/-- The disk behind laid. -/
def ldL (a : Nat) (l : List ByteArray) : List ByteArray := layP L0 (prN a l l.length)
def ldA (a : Nat) (l : List ByteArray) : List (Nat × Nat) := A0 ++ prA a l.length ++ [(1, 0)]
theorem layS_write (a : Nat) (l : List ByteArray) (m : Nat) (h : a + m < 128) (ht : (l.getD m ByteArray.empty).size = 256) : writeE (layS a l m) ((a + m : Nat) : Int) (l.getD m ByteArray.empty) = 0 ∧ writeS (layS a l m) ((a + m : Nat) : Int) (l.getD m ByteArray.empty) = layS a l (m + 1) := by
  obtain ⟨h1, h2⟩ := writeA (s := layS a l m) ⟨rfl, rfl⟩ (a + m) (by show a + m < L0.length; rw [L0_len]; exact h) _ ht
  refine ⟨h1, ?_⟩
  rw [h2]
  unfold layS
  simp only
  rw [prN_succ, prA_succ, layP_app, List.append_assoc]
  rfl
theorem layS_flush (a : Nat) (l : List ByteArray) : flushE (layS a l l.length) = 0 ∧ flushS (layS a l l.length) = rs (ldL a l) (ldA a l) := by
  obtain ⟨h1, h2⟩ := flushA (s := layS a l l.length) ⟨rfl, rfl⟩
  exact ⟨h1, by rw [h2]; rfl⟩
set_option maxRecDepth 100000 in
set_option maxHeartbeats 2000000 in
theorem blaid_any (p : Option Addr) (c : Nat) (l : List ByteArray) (a m : Nat) (hm : m = l.length) (hz : ∀ i, i < l.length → (l.getD i ByteArray.empty).size = 256) (h19 : 19 ≤ a) (h128 : a + l.length ≤ 128) (w : World) (hS : Strs w p l) : Calls Tryz.prog 22 #[.slice p m c, .int .i64 (a : Int)] w fun e w' => ∃ b, e = .returned (.pointer (some ⟨b, 0, none⟩)) ∧ DI w w' b (rs (ldL a l) (ldA a l)) := by
  have HNW := hide (new128 w)
  have HL := hide (And.intro hz hS)
  have hm128 : a + m ≤ 128 := by omega
  have HM := hide hm
  clear hz hS hm h128
  go_enter Tryz.func22, Tryz.ntmps22
  go_wp2_with fail
  refine (unhide HNW).mono ?_
  rintro e x1 ⟨b, rfl, v, h1, h5, h6⟩
  have HF := hide (format_any x1 w.heap.size b v _ h1 h5.size h6 (Nat.zero_le _) (Nat.zero_le _))
  rw [format_rs] at HF
  have H1 := hide (And.intro h1 (And.intro h5 h6))
  clear h1 h5 h6 HNW
  go_wp2_with fail
  refine (unhide HF).mono ?_
  rintro e x2 ⟨rfl, v2, k1, k2, k3⟩
  have hb2 := DI.only (unhide H1).1 (unhide H1).2.1 k2
  have hS2 : Sane (rs L0 A0) := by
    have := layR_sane [(1, headB 0 [])] _ (unhide H1).2.2
    rw [format_rs] at this
    exact this
  have X0 := hide (show DI w x2 b (layS a l 0) from ⟨v2, k1, hb2, hS2⟩)
  clear k1 k2 k3 hb2 hS2 H1 HF
  go_wp2
  go_loopw [6, 7] (fun er i wr => ∃ k : Nat, k ≤ m ∧ er = .int .i64 0 ∧ i = .int .i64 (k : Int) ∧ DI w wr b (layS a l k)) (fun _ i _ => m - (intOf i).toNat)
  case atStart => exact ⟨0, by omega, rfl, rfl, unhide X0⟩
  case round =>
    obtain ⟨k, hk, rfl, rfl, hD⟩ := hrel
    obtain ⟨wo, rfl⟩ : ∃ wo, wo = wr := ⟨_, rfl⟩
    clear X0
    by_cases hkn : k < m
    · have hkn' : (k : Int) < (m : Int) := by omega
      have hdk : decide ((k : Int) < (m : Int)) = true := decide_eq_true hkn'
      have hk0 : (0 : Int) ≤ (k : Int) := by omega
      have hkl : k < l.length := by have := unhide HM; omega
      obtain ⟨g, oo, rfl, hgl, cg⟩ := (unhide HL).2 k hkl
      have cg' : wo.cell? ⟨g, oo + k, none⟩ = some (.string (l.getD k ByteArray.empty)) := by rw [hD.bel.cell hgl]; exact cg
      have HWR := hide (writeD hD (by show (prN a l k).length ≤ _; rw [prN_len]; omega) (by show (A0 ++ prA a k).length ≤ _; rw [List.length_append, prA_len]; have : A0.length = 2 := rfl; omega) ((a + k : Nat) : Int) (l.getD k ByteArray.empty))
      obtain ⟨w1, w2⟩ := layS_write a l k (by omega) ((unhide HL).1 k hkl)
      rw [w1, w2] at HWR
      have e1 : (a : Int) + (k : Int) = ((a + k : Nat) : Int) := by omega
      have hq : a + k ≤ 1000 := by omega
      clear hD w1 w2 cg
      generalize a + k = ak at *
      generalize l.getD k ByteArray.empty = t at *
      go_wp2_with (go_at_call 55; refine (unhide HWR).mono ?_; rintro e y1 ⟨rfl, hD1⟩)
      go_roundw
      case rel => exact ⟨k + 1, by omega, rfl, by go_num, hD1⟩
      case measure => simp [intOf]; omega
    · have hke : k = m := by omega
      have hkn' : ¬ (k : Int) < (m : Int) := by omega
      have hdk : decide ((k : Int) < (m : Int)) = false := decide_eq_false hkn'
      have hkl : k = l.length := by have := unhide HM; omega
      rw [hkl] at hD
      have HFL := hide (flushD hD (by show (prN a l l.length).length ≤ _; rw [prN_len]; omega) (by show (A0 ++ prA a l.length).length ≤ _; rw [List.length_append, prA_len]; have : A0.length = 2 := rfl; omega))
      rw [(layS_flush a l).1, (layS_flush a l).2] at HFL
      clear hD hkl
      go_wp2_with (go_at_call 25; refine (unhide HFL).mono ?_; rintro e y1 ⟨rfl, hD1⟩)
      go_ret
      exact ⟨b, rfl, hD1⟩
end Go.Proofs.YtjiigapphhekmaaGreatDoor

namespace Go.Proofs.YtjiigapphhekmaaGreatDoor
open Go.RowKit Go.Maps Go.Sort Go.Shelf
set_option maxRecDepth 100000 in
set_option maxHeartbeats 2000000 in
theorem stray_ok {w : World} {mb pb a n : Nat} (h : MB w mb pb a n) (hn : n ≤ 1024) (k : Nat) (hk : k < pgs n) (T : Nat → Bool) (bd s : ByteArray) (hp : Pg n T k bd s) : Calls Tryz.prog 62 #[.pointer (some ⟨mb, 0, none⟩), .int .i64 (k : Int), .string bd] w fun e w' => e = .returned (.bool false) ∧ Below w.heap.size w w' := by
  have h4 := pgs_le hn
  have hpg : pgs n = (n + 255) / 256 := rfl
  have HPI := hide (placesIn_any h hn k hk)
  have HFO := hide (fun W => firstOf_any k (by omega) W)
  have hbit : ∀ i, i < 256 - pin n k → bitB bd (256 * k + pin n k + i) = false := fun i hi => by
    rw [Nat.add_assoc, bitB_page, hp.2.2 _ (by unfold pin at *; omega), decide_eq_false (by unfold pin at *; omega)]
    rfl
  have HBT := hide hbit
  have hbd := hp.1
  have hpn2 : pin n k ≤ 256 := by unfold pin; omega
  obtain ⟨pn, hpn⟩ : ∃ q, pin n k = q := ⟨_, rfl⟩
  rw [hpn] at HPI HBT hpn2
  have hkk : k ≤ 4 := by omega
  clear h hp hpg h4 hk hbit hpn
  go_enter Tryz.func62, Tryz.ntmps62
  go_wp2_with fail
  refine (unhide HPI).mono ?_
  rintro e x1 ⟨rfl, hb1⟩
  have HB1 := hide hb1
  have e0 : (256 : Int) - (pn : Int) = ((256 - pn : Nat) : Int) := by omega
  have hr : 256 - pn ≤ 256 := by omega
  obtain ⟨R, hR⟩ : ∃ q, 256 - pn = q := ⟨_, rfl⟩
  rw [hR] at e0 hr HBT
  clear hb1 HPI
  go_wp2
  go_loopw [14] (fun i wr => ∃ j : Nat, j ≤ R ∧ i = .int .i64 (j : Int) ∧ Below w.heap.size w wr) (fun i _ => R - (intOf i).toNat)
  case atStart => exact ⟨0, by omega, rfl, unhide HB1⟩
  case round =>
    obtain ⟨j, hj, rfl, hB⟩ := hrel
    obtain ⟨wo, rfl⟩ : ∃ wo, wo = wr := ⟨_, rfl⟩
    by_cases hjn : j < R
    · have hjn' : (j : Int) < (R : Int) := by omega
      have HTK := hide (fun W => isTaken_any bd hbd (256 * k + pn + j) (by omega) W)
      rw [unhide HBT j hjn] at HTK
      have e1 : ((256 * k : Nat) : Int) + (pn : Int) = ((256 * k + pn : Nat) : Int) := by omega
      have e2 : ((256 * k + pn : Nat) : Int) + (j : Int) = ((256 * k + pn + j : Nat) : Int) := by omega
      have q1 : 256 * k + pn + j < 10000 := by omega
      have q2 : 256 * k + pn < 10000 := by omega
      have q3 : 256 * k < 10000 := by omega
      have HB := hide hB
      clear hB
      generalize 256 * k + pn + j = m3 at *
      generalize 256 * k + pn = m2 at *
      generalize 256 * k = m1 at *
      go_wp2_with (first | (go_at_call 43; refine (unhide HFO _).mono ?_; rintro e w' ⟨rfl, hw'⟩; subst w') | (go_at_call 44; refine (unhide HTK _).mono ?_; rintro e y1 ⟨rfl, hb3⟩))
      go_roundw
      case rel => exact ⟨j + 1, by omega, by go_num, (unhide HB).trans (hb3.mono (unhide HB).size)⟩
      case measure => simp [intOf]; omega
    · have hjn' : ¬ (j : Int) < (R : Int) := by omega
      have HB := hide hB
      clear hB
      go_wp2
      go_ret
      exact ⟨rfl, unhide HB⟩
/-- What Open of a right map leaves. -/
def Opened (w0 w : World) (b jb pb : Nat) (X : Nat → Prop) (a n : Nat) (S : PS) (L : List ByteArray) (A : List (Nat × Nat)) (hn : Nat) (Mw Mn : List ByteArray) (T : Nat → Bool) (mb : Nat) (w' : World) : Prop :=
  w.heap.size ≤ mb ∧ ∃ S', BG w0 w' b jb pb mb (fun x => X x ∨ x = mb) a n S' L A hn Mw Mn T ∧ S'.op = S.op ∧ Tk S' S ∧ Only (fun x => ¬ X x) w w'
set_option maxRecDepth 100000 in
set_option maxHeartbeats 4000000 in
theorem mopen_ok {w0 w : World} {b jb pb : Nat} {X : Nat → Prop} {a n : Nat} {S : PS} {L : List ByteArray} {A : List (Nat × Nat)} {hn : Nat} {Mw Mn : List ByteArray} {T : Nat → Bool} (K : PK w0 w b jb pb S X) (hg : ETy w0) (hs : Seen S L A hn Mw Mn) (hm : MS Mn a n T) (h19 : 19 ≤ a) (h128 : a + pgs n ≤ 128) (hn1 : 1 ≤ n) (hn2 : n ≤ 1024) :
    Calls Tryz.prog 26 #[.pointer (some ⟨pb, 0, none⟩), .int .i64 (a : Int), .int .i64 (n : Int)] w fun e w' => ∃ mb, e = .returned (.tuple #[.pointer (some ⟨mb, 0, none⟩), .int .i64 0]) ∧ Opened w0 w b jb pb X a n S L A hn Mw Mn T mb w' := by
  have h4 := pgs_le hn2
  have HCN := hide (fun W => isCount_any (n : Int) W)
  rw [decide_eq_true (show (1 : Int) ≤ (n : Int) by omega), decide_eq_true (show (n : Int) ≤ 1024 by omega)] at HCN
  have HPO := hide (fun W => pagesOf_any n hn2 W)
  have HSZ := hide (show Calls Tryz.prog 61 #[.pointer (some ⟨pb, 0, none⟩)] w fun e w' => e = .returned (.int .i64 128) ∧ w' = w from by
    obtain ⟨bw, bv, ov, Ki⟩ := K
    have := Ki.size
    rw [hs.rst.s, show ((rs L A).last.length : Int) = 128 from by show ((L.length : Nat) : Int) = 128; rw [hs.len]; rfl] at this
    exact this)
  have ha0 : decide ((a : Int) < 0) = false := decide_eq_false (by omega)
  have ha1 : decide ((128 : Int) - (pgs n : Int) < (a : Int)) = false := decide_eq_false (by omega)
  have HM0 := hide (show ∀ W mb, Below w.heap.size w W → MB W mb pb a n → mb = w.heap.size → mb < W.heap.size → Kept w0 w b jb pb mb (fun x => X x ∨ x = mb) a n S L A hn Mw Mn T W from fun W mb hb hM hmb hlt => by
    refine ⟨S, ⟨K.more hb (fun x hx => ?_), hM, .inr rfl, hg, hs, hm, h19, h128, hn1, hn2⟩, rfl, Tk.refl _, Only.of_below hb⟩
    rcases hx with q | q
    · exact .inl q
    · rw [q]; exact .inr ⟨by omega, hlt⟩)
  have HXL := hide (show ∀ x, X x → x < w.heap.size from fun x hx => K.lt x hx)
  have hpq : pgs n ≤ 4 := h4
  have HP0 := hide (show ∀ k, k < pgs n → k < pgs n from fun _ q => q)
  obtain ⟨P0, hP0⟩ : ∃ q, pgs n = q := ⟨_, rfl⟩
  rw [hP0] at HPO ha1 hpq
  have HPE := hide hP0
  clear K hs hm hg h4 h128 hP0 HP0 hn1 h19
  go_enter Tryz.func26, Tryz.ntmps26
  go_wp2_with (first | (go_at_call 50; refine (unhide HCN _).mono ?_; rintro e w' ⟨rfl, hw'⟩; subst w') | (go_at_call 40; refine (unhide HPO _).mono ?_; rintro e w' ⟨rfl, hw'⟩; subst w') | (go_at_call 61; refine (unhide HSZ).mono ?_; rintro e w' ⟨rfl, hw'⟩; subst w'))
  obtain ⟨mb, hmb⟩ : ∃ q, w.heap.size = q := ⟨_, rfl⟩
  obtain ⟨x1, hx1⟩ : ∃ q, w.alloc (.cells #[.pointer (some ⟨pb, 0, none⟩), .int .i64 (a : Int), .int .i64 (n : Int)] 83) = q := ⟨_, rfl⟩
  rw [hx1, hmb]
  have X1 := hide (unhide HM0 x1 mb (by rw [← hx1]; exact (Below.refl _ _).alloc (Nat.le_refl _) _) (by rw [← hx1, ← hmb]; exact Blk.new w _ _) hmb.symm (by rw [← hx1, ← hmb]; simp))
  have HMB := hide hmb
  clear hx1 hmb HM0 ha0 ha1
  go_loopw [10, 11, 39] (fun _ _ i wr => ∃ k : Nat, k ≤ P0 ∧ i = .int .i64 (k : Int) ∧ Kept w0 w b jb pb mb (fun x => X x ∨ x = mb) a n S L A hn Mw Mn T wr) (fun _ _ i _ => P0 - (intOf i).toNat)
  case atStart => exact ⟨0, by omega, rfl, unhide X1⟩
  case round =>
    obtain ⟨k, hk, rfl, hI⟩ := hrel
    obtain ⟨wo, rfl⟩ : ∃ wo, wo = wr := ⟨_, rfl⟩
    clear X1
    by_cases hkn : k < P0
    · have hkn' : (k : Int) < (P0 : Int) := by omega
      obtain ⟨bd, hpg', hc⟩ := hI.read k (by rw [unhide HPE]; exact hkn)
      have HCR := hide hc
      have HPG := hide hpg'
      clear hI hc hpg'
      go_wp2_with fail
      refine (unhide HCR).mono ?_
      rintro e y1 ⟨rfl, hI1⟩
      have HST := hide (stray_ok hI1.mb hn2 k (by rw [unhide HPE]; exact hkn) T bd _ (unhide HPG))
      have HI1 := hide hI1
      clear hI1 HCR HPG
      go_wp2_with (go_at_call 62; refine (unhide HST).mono ?_; rintro e y2 ⟨rfl, hb2⟩)
      go_roundw
      case rel => exact ⟨k + 1, by omega, by go_num, (unhide HI1).below hb2⟩
      case measure => simp [intOf]; omega
    · have hkn' : ¬ (k : Int) < (P0 : Int) := by omega
      have HI := hide hI
      clear hI
      go_wp2
      go_ret2
      obtain ⟨S', k1, k2, k3, k4⟩ := unhide HI
      refine ⟨mb, rfl, by rw [unhide HMB]; exact Nat.le_refl _, S', k1, k2, k3, k4.widen (fun x hx q r => q (.inl r))⟩
end Go.Proofs.YtjiigapphhekmaaGreatDoor

namespace Go.Proofs.YtjiigapphhekmaaGreatDoor
open Go.RowKit Go.Maps Go.Sort Go.Shelf
theorem cSec_at (l : List Int) (d : Int) (M : List ByteArray) (hM : M.length = 128) (j : Nat) (hj : j < 128) : ∀ k, (cSec l d M k).getD j ByteArray.empty = (txAt (cTx l d k) (j : Int)).getD (M.getD j ByteArray.empty)
  | 0 => rfl
  | k + 1 => by
    have ih := cSec_at l d M hM j hj k
    obtain ⟨a1, a2⟩ := cK_lo l k
    rw [cSec, cTx, at_put (cTx_srt l d k)]
    by_cases h : (j : Int) = cK l k
    · have e : (cK l k).toNat = j := by omega
      rw [if_pos h, e, getD_set_same _ _ _ (by rw [cSec_len, hM]; exact hj)]
      rfl
    · rw [if_neg h, getD_set_other _ _ _ _ (by omega), ih]
/-- Sectors of noughts, up to k. -/
def zG (k : Nat) : List ByteArray := (List.range 128).map fun i => if i < k then zero256 else ⟨#[]⟩
theorem zG_len (k : Nat) : (zG k).length = 128 := by simp [zG]
theorem zG_step (k : Nat) : (zG k).set k zero256 = zG (k + 1) := by
  apply List.ext_getElem
  · simp [zG]
  · intro j a b
    simp only [zG, List.getElem_set, List.getElem_map, List.getElem_range]
    by_cases e : k = j
    · subst e; simp
    · rw [if_neg e]
      by_cases h : j < k
      · rw [if_pos h, if_pos (by omega)]
      · rw [if_neg h, if_neg (by omega)]
theorem zG_start : zG 0 = List.replicate 128 ⟨#[]⟩ := by
  refine List.eq_replicate_iff.2 ⟨zG_len 0, fun x hx => ?_⟩
  obtain ⟨j, _, rfl⟩ := List.mem_map.1 hx
  rw [if_neg (by omega)]
theorem zG_at (k : Nat) (h2 : k < 128) : (zG 128).getD k ByteArray.empty = zero256 := by
  simp [zG, List.getD_eq_getElem?_getD, h2]
/-- What the first transaction makes, as the law lays it and as the disk has it. -/
theorem was_eq (l : List Int) (n : Nat) (hn : n ≤ 16) (k : Nat) (h1 : 19 ≤ k) (h2 : k < 128) : (comL L0 1 (cTx l 0 n)).getD k ByteArray.empty = (cSec l 0 (zG 128) n).getD k ByteArray.empty := by
  rw [com_free L0 1 _ (cTx_good l 0 n hn).len k h1, tx_lay (cTx_srt l 0 n) (fun p hp => (cTx_mem l 0 n p hp).1) L0 k (by rw [L0_len]; exact h2), cSec_at l 0 _ (zG_len 128) k h2, L0_free k h1 h2, zG_at k h2]
theorem now_eq (l : List Int) (n : Nat) (O W : List ByteArray) (hO : O.length = 128) (hW : W.length = 128) (h : ∀ k, 19 ≤ k → k < 128 → O.getD k ByteArray.empty = W.getD k ByteArray.empty) (k : Nat) (h1 : 19 ≤ k) (h2 : k < 128) : (layP O (natW (cTx l 21 n))).getD k ByteArray.empty = (cSec l 21 W n).getD k ByteArray.empty := by
  rw [tx_lay (cTx_srt l 21 n) (fun p hp => (cTx_mem l 21 n p hp).1) O k (by rw [hO]; exact h2), cSec_at l 21 _ hW k h2, h k h1 h2]
theorem StA.weak {O : List ByteArray} {l : List Wr1} {I : List ByteArray} {m x : Bool} (h : StA O l (m || x) I) : StA O l m I := by
  rcases h with ⟨q, r⟩ | q
  · exact .inl ⟨q, by cases m <;> simp_all⟩
  · exact .inr q
theorem DF.less {w0 w : World} {b : Nat} {s : DSt} {X Y : Nat → Prop} (h : DF w0 w b s X) (hy : ∀ x, Y x → X x) : DF w0 w b s Y := by
  obtain ⟨v, h1, h2, h3, h4⟩ := h
  exact ⟨v, h1, h2, h3, fun x hx => h4 x (hy x hx)⟩
theorem PK.df {w0 w : World} {b jb pb : Nat} {S : PS} {X : Nat → Prop} (K : PK w0 w b jb pb S X) : DF w0 w b S.s X := by
  obtain ⟨bw, bv, ov, K⟩ := K
  exact K.jk.df.less (fun x q => .inl q)
/-- The disk beneath a pool is armed. -/
theorem armP {w0 w : World} {b jb pb : Nat} {S : PS} {X : Nat → Prop} (K : PK w0 w b jb pb S X) (n : Int) (hn : n ≤ 9223372036854775807) (hl : (armS S.s n).last = S.s.last) :
    Calls Tryz.prog 24 #[.pointer (some ⟨b, 0, none⟩), .int .i64 n] w fun e w' => e = .returned (.int .i64 (armE S.s n)) ∧ PK w0 w' b jb pb { S with s := armS S.s n } X ∧ Only (fun x => ¬ X x) w w' := by
  obtain ⟨bw, bv, ov, K⟩ := K
  refine (armK K.jk n hn).mono ?_
  rintro ev w' ⟨rfl, hJ, hO⟩
  have np : ∀ x, Pf pb bw bv ov x → ¬ ¬ (X x ∨ Pf pb bw bv ov x) := fun x q r => r (.inr q)
  refine ⟨rfl, ⟨bw, bv, ov, hJ, K.blk.only hO (np _ (.inl rfl)), K.tx.only hO (np _ (.inr (.inl rfl))), K.hn.only hO (np _ (.inr (.inr (.inl rfl)))) (fun x q => np _ (.inr (.inr (.inr q)))), K.ne, K.lo1, K.lo2, K.lo3, K.xn, K.hk, K.kp, K.t16, ?_⟩, hO.mono (fun x _ q r => q (.inl r))⟩
  show ∀ p ∈ S.tx, 19 ≤ p.1 ∧ p.1 < ((armS S.s n).last.length : Int) ∧ p.2.size = 256
  rw [hl]
  exact K.tok
/-- A pool's commit on a disk that may die. -/
theorem commitP_at {S : PS} {O : List ByteArray} {A : List (Nat × Nat)} {f : Nat} (hs : S.s = ⟨O, O, [], A, (f : Int), false⟩) (hnx : S.nx = 2) (hjl : S.jl = false) (hlost : S.lost = false) (ho : S.op = true) (hO : StO O O) (hl : GoodL S.tx) (hf : f ≤ 1000000) :
    ∃ e s', commitPE S = e ∧ (commitPS S).s = s' ∧ (e = 0 ∨ e = 2) ∧ s'.pend.length ≤ 16 ∧ s'.acts.length ≤ A.length + 38 ∧ Crashed (StA O S.tx (decide (e = 0))) s' := by
  obtain ⟨e, s', nx, lost, hc, he, h1, h2, h3⟩ := commit_at hO hl A f hf
  have hc' : commitR S.s S.nx S.jl S.tx = ⟨e, s', nx, lost⟩ := by rw [hs, hnx, hjl]; exact hc
  refine ⟨e, s', ?_, ?_, he, h1, h2, h3⟩
  · unfold commitPE
    rw [ho, hlost, hc']
    rfl
  · unfold commitPS
    rw [ho, hlost, if_neg (by decide), if_neg (by decide)]
    split
    · show (commitR S.s S.nx S.jl S.tx).s = s'
      rw [hc']
    · show (commitR S.s S.nx S.jl S.tx).s = s'
      rw [hc']
/-- Pools over a disk that may die. -/
theorem popenF {w0 w : World} {b : Nat} {O I : List ByteArray} {l : List Wr1} {must : Bool} {A : List (Nat × Nat)} {f : Nat} {X : Nat → Prop} (h : DF w0 w b ⟨I, I, [], A, (f : Int), false⟩ X) (hg : ETy w) (h2 : f ≤ 1000000) (hA : StA O l must I) (hl : GoodL l) (hO : O.length = 128) (ha : A.length ≤ 1000000) (keep : Nat) (hk : keep ≤ 64) :
    Calls Tryz.prog 23 #[.pointer (some ⟨b, 0, none⟩), .int .i64 (keep : Int)] w fun e w' => ∃ pp er s', e = .returned (.tuple #[.pointer pp, .int .i64 er]) ∧ ((er = 0 ∧ ∃ pb, pp = some ⟨pb, 0, none⟩) ∨ (er = 2 ∧ pp = none ∧ 1 ≤ f)) ∧ DF w0 w' b s' X ∧ Only (fun x => ¬ X x) w w' ∧ s'.pend.length ≤ 16 ∧ s'.acts.length ≤ A.length + 19 ∧ Crashed (StA O l must) s' := by
  refine (popen_any w b keep hk (fun jp ag er w1 => ∃ s', DF w0 w1 b s' X ∧ Only (fun x => ¬ X x) w w1 ∧ (er = 0 ∨ (er = 2 ∧ 1 ≤ f)) ∧ s'.pend.length ≤ 16 ∧ s'.acts.length ≤ A.length + 19 ∧ Crashed (StA O l must) s') ((openG h hg h2 hA hl hO ha).mono (fun e w1 q => by
    obtain ⟨jp, ag, er, s', q1, q2, q3, q4, q5, q6, q7⟩ := q
    exact ⟨jp, ag, er, q1, s', q2, q3, q4, q5, q6, fun ps r1 r2 => (q7 ps r1 r2).weak⟩))).mono ?_
  rintro e w' ⟨jp, ag, er, w1, ⟨s', q2, q3, q4, q5, q6, q7⟩, ⟨r1, r2, rfl⟩ | ⟨rfl, pb, bw, bv, r2, hP⟩⟩
  · rcases q4 with q | q
    · exact absurd q r1
    · exact ⟨none, er, s', r2, .inr ⟨q.1, rfl, q.2⟩, q2, q3, q5, q6, q7⟩
  · have hb := hP.2.2.2.2.2.2.2
    exact ⟨_, 0, s', r2, .inl ⟨rfl, pb, rfl⟩, q2.below hb, q3.trans (Only.of_below (P := fun x => ¬ X x) hb) (fun _ _ q => q), q5, q6, q7⟩
/-- What the last journal is. -/
def OpY (O : List ByteArray) (l : List Wr1) (must : Bool) (w0 : World) (b : Nat) (e : Ending) (w' : World) : Prop :=
  ∃ jb ag I A n, e = .returned (.tuple #[.pointer (some ⟨jb, 0, none⟩), .bool ag, .int .i64 0]) ∧ JK w0 w' b jb (rs I A) ((n + 1) % 4294967296) false (fun _ => False) ∧ n < 4294967296 ∧ I.length = 128 ∧ (∀ t ∈ I, t.size = 256) ∧ I.getD 1 ByteArray.empty = headB n [] ∧ ((freeQ I O ∧ must = false) ∨ freeQ I (layP O (natW l)))
theorem jnew_jk {w0 w w' : World} {b : Nat} {v : DV} {s s0 : DSt} {jb nx : Nat} (h : Dk w w0.heap.size b v s0) (h0 : Below w0.heap.size w0 w) (hs : Sane s) (hN : JNew w0.heap.size b v s jb nx w w') : JK w0 w' b jb s nx false (fun _ => False) := by
  obtain ⟨v', j1, j2, j3, j4, j5, j6⟩ := hN
  exact ⟨v', j1, j2, j3, Nat.le_trans h0.size j4, DI.only h h0 j5, hs, fun x hx => hx.elim⟩
theorem openY {w0 w : World} {b : Nat} {v : DV} {O I : List ByteArray} {l : List Wr1} {must : Bool} (h : Dk w w0.heap.size b v (rs I [])) (h0 : Below w0.heap.size w0 w) (hg : ETy w) (hA : StA O l must I) (hl : GoodL l) (hO : O.length = 128) :
    Calls Tryz.prog 56 #[.pointer (some ⟨b, 0, none⟩)] w (OpY O l must w0 b) := by
  have hIl := hA.len
  have hS : Sane (rs I []) := Sane.fresh I (by omega) (by omega)
  obtain ⟨r1, r2⟩ := read_rs I [] 1 (by omega)
  rw [show ((1 : Nat) : Int) = 1 from rfl] at r1 r2
  have hsz : (I.getD 1 ByteArray.empty).size = 256 := hA.size _ (by simp [List.getD_eq_getElem?_getD, show 1 < I.length by omega])
  have hAs := hA.size
  refine (open_any w w0.heap.size b v _ h hg h0.size hS (by rw [r2, hsz]; decide) (Nat.zero_le _) (Nat.zero_le _)).mono ?_
  intro e w' hP
  rcases hP with ⟨q, _⟩ | ⟨_, n', H, ok, hn', hR, hc⟩
  · exact absurd r1 q
  · rw [r2] at hR
    have clear : ∀ n, n < 4294967296 → I.getD 1 ByteArray.empty = headB n [] → ((freeQ I O ∧ must = false) ∨ freeQ I (layP O (natW l))) → OpY O l must w0 b e w' := fun n hn hh hst => by
      rw [hh] at hR
      obtain ⟨e1, e2, e3⟩ := rhp_clear n hn _ _ _ _ hR
      have e1' : n' = n := by omega
      subst e1' e2 e3
      rcases hc with ⟨q, _⟩ | ⟨_, _, jb, ev, hN⟩ | ⟨_, q, _⟩ | ⟨_, q, _⟩
      · cases q
      · exact ⟨jb, false, I, [], n', ev, jnew_jk h h0 hS hN, hn', hIl, hAs, hh, hst⟩
      · simp at q
      · simp at q
    rcases hA with ⟨q, qm⟩ | q | q
    · exact clear 1 (by decide) q.head (.inl ⟨q.free, qm⟩)
    · rw [q.head, show (((rs I []).last.length : Nat) : Int) = 128 by show ((I.length : Nat) : Int) = 128; rw [hIl]; rfl] at hR
      obtain ⟨e1, e2, e3⟩ := rhp_set 2 (by decide) 128 _ _ _ _ (secs16 l hl) (homes_ok l hl) hR
      have e1' : n' = 2 := by omega
      subst e1' e2 e3
      have h16 := filled_len l hl.len
      have hL : redoL (rs I []) (secs (filled l)) = filled l := by
        refine List.ext_getElem (by rw [redoL_len, secs16 l hl, h16]) (fun i q1 q2 => ?_)
        have hi : i < 16 := by omega
        rw [← getD_of q1, ← getD_of q2, redoL_at _ _ i (by rw [secs16 l hl]; exact hi), secs_at _ i (by omega), (read_rs I [] (2 + i) (by omega)).2, q.recs i hi]
      have e1 := lay_rs I [] (filled l) (by rw [hIl]; exact fill_ok l hl)
      have e2 := lay_rs (layP I (natW (filled l))) ([] ++ actW (filled l) ++ [(1, 0)]) [(1, headB 2 [])] (head_ok _ (by rw [layP_len, hIl]; decide) 2 _ (by simp))
      have hrr : redoR (rs I []) 2 (secs (filled l)) = (0, rs (layP (layP I (natW (filled l))) [(1, headB 2 [])]) ([] ++ actW (filled l) ++ [(1, 0)] ++ actW [(1, headB 2 [])] ++ [(1, 0)])) := by
        rw [redoR, hL, e1, if_pos rfl]
        simp only
        rw [e2]
        rfl
      have hsn : Sane (redoR (rs I []) 2 (secs (filled l))).2 := by
        unfold redoR
        split
        · exact layR_sane _ _ (layR_sane _ _ hS)
        · exact layR_sane _ _ hS
      rw [hrr] at hc hsn
      have hN := q.done hl hO
      rcases hc with ⟨q', _⟩ | ⟨_, q', _⟩ | ⟨_, _, q', _⟩ | ⟨_, _, q', jb, ev, hJ⟩
      · cases q'
      · rw [secs16 l hl] at q'; cases q'
      · exact absurd rfl q'
      · exact ⟨jb, true, _, _, 2, ev, jnew_jk h h0 hsn hJ, by decide, hN.len, hN.size, hN.head, .inr hN.free⟩
    · exact clear 2 (by decide) q.head (.inr q.free)
/-- The last pool: it sees what the disk has. -/
theorem popenY {w0 w : World} {b : Nat} {v : DV} {O I : List ByteArray} {l : List Wr1} {must : Bool} (h : Dk w w0.heap.size b v (rs I [])) (h0 : Below w0.heap.size w0 w) (hg : ETy w) (hA : StA O l must I) (hl : GoodL l) (hO : O.length = 128) :
    Calls Tryz.prog 23 #[.pointer (some ⟨b, 0, none⟩), .int .i64 3] w fun e w' => ∃ jb pb S I' A' n, e = .returned (.tuple #[.pointer (some ⟨pb, 0, none⟩), .int .i64 0]) ∧ PK w0 w' b jb pb S (fun _ => False) ∧ Seen S I' A' n I' I' ∧ ((freeQ I' O ∧ must = false) ∨ freeQ I' (layP O (natW l))) := by
  refine (popen_any w b 3 (by decide) (fun jp ag er w1 => er = 0 ∧ ∃ jb I A n, jp = some ⟨jb, 0, none⟩ ∧ JK w0 w1 b jb (rs I A) ((n + 1) % 4294967296) false (fun _ => False) ∧ n < 4294967296 ∧ I.length = 128 ∧ (∀ t ∈ I, t.size = 256) ∧ I.getD 1 ByteArray.empty = headB n [] ∧ ((freeQ I O ∧ must = false) ∨ freeQ I (layP O (natW l)))) ((openY h h0 hg hA hl hO).mono (fun e w1 q => by
    obtain ⟨jb, ag, I', A', n, q1, q2⟩ := q
    exact ⟨_, ag, 0, q1, rfl, jb, I', A', n, rfl, q2⟩))).mono ?_
  rintro e w' ⟨jp, ag, er, w1, ⟨rfl, jb, I', A', n, rfl, q1, q2, q3, q4, q5, q6⟩, r | ⟨_, pb, bw, bv, rfl, hP⟩⟩
  · exact absurd rfl r.1
  · exact ⟨jb, pb, restP I' A' ((n + 1) % 4294967296) 3, I', A', n, rfl, POk.pk q1 (by decide) hP, ⟨⟨rfl, rfl, rfl, rfl⟩, q3, q4, q5, q2, fun k _ _ => rfl, q3, q3, fun k _ _ => rfl, fun _ => rfl, fun p hp => by cases hp⟩, q6⟩
end Go.Proofs.YtjiigapphhekmaaGreatDoor
