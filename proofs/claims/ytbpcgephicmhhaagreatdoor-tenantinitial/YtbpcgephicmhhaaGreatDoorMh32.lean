import Derived.Test.YtbpcgephicmhhaaGreatDoorMh31
import Derived.Test.YtbpcgephicmhhaaGreatDoorMh23
namespace Go.Proofs.YtbpcgephicmhhaaGreatDoor
open Go.RowKit Go.Maps Go.Sort Go.Shelf
set_option maxRecDepth 100000
theorem bd_nobody : bdR Rc0 = strOfNums (List.replicate 50 0) := by
  have : bdL Rc0 = List.replicate 50 0 := by decide
  rw [bdR, this]
set_option maxRecDepth 100000 in
set_option maxHeartbeats 2000000 in
theorem rpage_any (k : Nat) (hk : k ≤ 8) (w : World) : Calls Tryz.prog 61 #[.agg #[.int .i64 (k : Int), .int .i64 0, .int .i64 0, .slice none 0 0], .bool false] w fun e w' => e = .returned (.string (pgR k Rc0)) ∧ Below w.heap.size w w' := by
  obtain ⟨g, hg⟩ : ∃ xx, w.heap.size = xx := ⟨_, rfl⟩
  have HZ := hide (fun W => rzeros_any 50 (by decide) W)
  rw [← bd_nobody] at HZ
  simp only [Int.cast_ofNat_Int] at HZ
  have HM := hide (fun W => rmake_any 5 (k : Int) (bdR Rc0) W)
  have hE := pgR_err k Rc0 hk
  have HPG := hide (show pgR k Rc0 = makeB 5 (k : Int) (bdR Rc0) from rfl)
  have hsz := bdR_size Rc0
  generalize pgR k Rc0 = tx at *
  generalize bdR Rc0 = bd at *
  have HE := hide hE
  have hemp : (⟨#[]⟩ : ByteArray) ++ bd = bd := ByteArray.empty_append
  obtain ⟨x2, hx2⟩ : ∃ xx, w.alloc (.cells #[.int .i64 (k : Int), .int .i64 0, .int .i64 0, .slice none 0 0] 35) = xx := ⟨_, rfl⟩
  have B : Blk x2 g #[.int .i64 (k : Int), .int .i64 0, .int .i64 0, .slice none 0 0] 35 := by rw [← hx2, ← hg]; exact Blk.new w _ _
  have hb : Below g w x2 := by rw [← hx2, ← hg]; exact (Below.refl _ w).alloc (Nat.le_refl _) _
  have X2 := hide (And.intro B hb)
  clear B hb hE
  rw [hg]
  go_enter Tryz.func61, Tryz.ntmps61
  go_wp2_with fail
  clear hx2
  refine (unhide HZ _).mono ?_
  rintro e x3 ⟨rfl, hb3⟩
  obtain ⟨B, hb⟩ := unhide X2
  have B3 := B.below hb3 B.lt
  have hlt := B.lt
  have hb3' := hb.trans (hb3.mono (by omega))
  have c0 : x3.cell? ⟨g, 0, none⟩ = some (.int .i64 (k : Int)) := B3.cell 0
  have X3 := hide (And.intro B3 hb3')
  clear B hb hb3 B3 hlt hb3' X2 HZ
  go_wp2_with fail
  refine (unhide HM _).mono ?_
  rw [unhide HE, ← unhide HPG]
  rintro e x4 ⟨rfl, hb4⟩
  have HB4 := hide (show Below g w x4 from (unhide X3).2.trans (hb4.mono (by have := (unhide X3).1.lt; omega)))
  clear hb4 HM c0
  go_wp2
  go_ret
  exact ⟨rfl, unhide HB4⟩
set_option maxRecDepth 100000 in
set_option maxHeartbeats 2000000 in
theorem rinit_any (w : World) : Calls Tryz.prog 25 #[] w fun e w' => ∃ v, e = .returned v ∧ InTT w 8 v w' := by
  obtain ⟨i0, hi, hz0, hz1, hz2⟩ := info_parts infoS
  have HI := hide (And.intro hi (And.intro hz0 (And.intro hz1 hz2)))
  clear hi hz0 hz1 hz2
  go_enter Tryz.func25, Tryz.ntmps25
  go_wp2
  go_loopw [1, 2] (fun u i wr => ∃ k : Nat, k ≤ 8 ∧ i = .int .i64 ((k : Int) + 1) ∧ InTT w k u wr) (fun _ i _ => 9 - (intOf i).toNat)
  case atStart => exact ⟨0, by omega, rfl, World.ownsRow_nil _ _ _ _, Below.refl _ _⟩
  case round =>
    obtain ⟨k, hk, rfl, hR, hB⟩ := hrel
    obtain ⟨wo, rfl⟩ : ∃ wo, wo = wr := ⟨_, rfl⟩
    obtain ⟨pv, cv, rfl, hcv⟩ := row_form hR
    have e1 : (k : Int) + 1 = ((k + 1 : Nat) : Int) := by omega
    by_cases hkn : k < 8
    · have hkn' : ((k + 1 : Nat) : Int) ≤ 8 := by omega
      have HR := hide hR
      have HB := hide hB
      clear hR hB hcv
      have HSE := hide (rpage_any (k + 1) (by omega) wo)
      obtain ⟨tt, ht⟩ : ∃ xx, pgR (k + 1) Rc0 = xx := ⟨_, rfl⟩
      rw [ht] at HSE
      have HT := hide ht
      have e2 : ((k + 1 : Nat) : Int) + 1 = ((k + 2 : Nat) : Int) := by omega
      have hwk : IntKind.i64.wrap ((k + 2 : Nat) : Int) = ((k + 2 : Nat) : Int) := wrapI_eq _ (by omega) (by omega)
      rw [e1]
      generalize hkk : ((k + 1 : Nat) : Int) = kk at *
      generalize hk2 : ((k + 2 : Nat) : Int) = k2 at *
      have HKK := hide (And.intro hkk hk2)
      clear ht hkk hk2 e1
      go_wp2_with fail
      refine (unhide HSE).mono ?_
      rintro e y2 ⟨rfl, hb2⟩
      have HRA := hide (show (y2.alloc (.cells #[.string tt] 9)).ownsRow w.heap.size 9 1 (.slice pv k cv) k (strs (pgN k)) from (owns_only (unhide HR) (Only.of_below (P := fun _ => False) hb2) (fun _ _ q => q)).alloc _)
      have HXB := hide ((unhide HB).trans ((hb2.alloc hb2.size (.cells #[.string tt] 9)).mono (unhide HB).size))
      clear hb2 HSE
      go_wp2_with (refine wpList_append_own _ rfl (.tmp 7) (.tmp 11) 50 rfl w.heap.size 9 i0 (.string ⟨#[]⟩) 1 16 Tryz.underlying50 (unhide HI).1 (unhide HI).2.1 (unhide HI).2.2.1 (unhide HI).2.2.2 rfl (by decide) _ k (strs (pgN k)) rfl (unhide HRA) ⟨y2.heap.size, 0, none⟩ 1 1 [.string tt] rfl rfl (fun q u hu => news_one y2 9 _ q u hu) (by simp [Value.oneCell']) (by unfold maxLen; omega) (by omega) (unhide HXB).size ?_)
      intro v5 x5 ho5 hg5 _
      have HRR := hide (show InTT w (k + 1) v5 x5 from ⟨by rw [pgN_succ, unhide HT]; exact ho5, (unhide HXB).grown hg5 (unhide HXB).size (fun q hq => ((unhide HRA).lt q hq).1)⟩)
      clear ho5 hg5 HRA HXB HT
      go_wp2
      go_roundw
      case rel => exact ⟨k + 1, by omega, by rw [← (unhide HKK).2]; congr 1, unhide HRR⟩
      case measure => simp [intOf]; have := unhide HKK; omega
    · have hke : k = 8 := by omega
      have hkn' : ¬ (k : Int) + 1 ≤ 8 := by omega
      have HF := hide (show InTT w 8 (.slice pv k cv) wo from ⟨by rw [← hke]; exact hR, hB⟩)
      clear hR hB hcv hke e1
      go_wp2
      go_ret
      exact ⟨_, rfl, unhide HF⟩
end Go.Proofs.YtbpcgephicmhhaaGreatDoor

namespace Go.Proofs.YtbpcgephicmhhaaGreatDoor
open Go.RowKit Go.Maps Go.Sort Go.Shelf
set_option maxRecDepth 100000
def ovL (s : ByteArray) (k : Nat) : List Value := (List.range 8).map fun i => Value.string (if i < k then s else pgR (i + 1) Rc0)
theorem ovL_0 (s : ByteArray) : ovL s 0 = strs (pgN 8) := by simp [ovL, strs, pgN]
theorem ovL_at (s : ByteArray) (k : Nat) (h : k < 8) : (ovL s k)[k]? = some (.string (pgR (k + 1) Rc0)) := by simp [ovL, h]
theorem ovL_set (s : ByteArray) (k : Nat) : (ovL s k).set k (.string s) = ovL s (k + 1) := by
  unfold ovL
  apply List.ext_getElem?
  intro i
  rw [List.getElem?_set]
  by_cases e : k = i
  · subst e
    rw [if_pos rfl]
    by_cases h : k < 8
    · simp [h]
    · simp [h]
  · rw [if_neg e]
    by_cases h : i < 8
    · rw [List.getElem?_map, List.getElem?_map, List.getElem?_range h]
      by_cases q : i < k
      · simp [q, show i < k + 1 by omega]
      · simp [q, show ¬ i < k + 1 by omega]
    · simp [h]
theorem ovL_8 (s : ByteArray) (i : Nat) (h : i < 9) : (ovL s 8 ++ [.string s])[i]? = some (.string s) := by
  by_cases q : i < 8
  · rw [List.getElem?_append_left (by simp [ovL]; exact q)]
    simp [ovL, q]
  · obtain rfl : i = 8 := by omega
    simp [ovL]
theorem row_some {w : World} {base n : Nat} {e : TypeId} {k : Nat} {v : Value} {xs : List Value} (h : w.ownsRow base e k v n xs) (hn : 0 < n) : ∃ g cap, v = .slice (some ⟨g, 0, none⟩) n cap ∧ base ≤ g ∧ g < w.heap.size := by
  obtain ⟨p, cap, hv, -⟩ := row_form h
  rcases h.2 with ⟨_, q⟩ | ⟨g, cap, cur, q, hb, hc, _⟩
  · omega
  · exact ⟨g, cap, q, hb, (h.lt g (by rw [q]; rfl)).2⟩
theorem pgN_val (k : Nat) (h : k < 8) : (strs (pgN 8))[k]? = some (.string (pgR (k + 1) Rc0)) := by rw [← ovL_0 ⟨#[]⟩]; simp [ovL, h]
set_option maxRecDepth 100000 in
set_option maxHeartbeats 4000000 in
theorem initial11 {w : World} (hE : ETy w) : Calls Tryz.prog 5 #[] w fun e w' => e = .returned (.bool true) ∧ Below w.heap.size w w' := by
  obtain ⟨i0, hi, hz0, hz1, hz2⟩ := info_parts infoS
  have HI := hide (And.intro hi (And.intro hz0 (And.intro hz1 hz2)))
  have HAW := hide (awake11_any w hE)
  clear hi hz0 hz1 hz2 hE
  go_enter Tryz.func5, Tryz.ntmps5
  go_wp2_with fail
  refine (unhide HAW).mono ?_
  rintro e w1 ⟨rfl, hb1⟩
  have HB1 := hide hb1
  clear hb1 HAW
  go_wp2_with fail
  refine (tinit_any _).mono ?_
  rintro e x1 ⟨va, rfl, hA1, hW1⟩
  obtain ⟨ga, ca, rfl, hga, hgal⟩ := row_some hA1 (by decide)
  have X1 := hide (And.intro hA1 hW1)
  clear hA1 hW1
  go_wp2_with fail
  refine (rinit_any _).mono ?_
  rintro e x2 ⟨vb, rfl, hB2, hW2⟩
  obtain ⟨gb, cb, rfl, hgb, hgbl⟩ := row_some hB2 (by decide)
  have hne : gb ≠ ga := by omega
  have hlo : w1.heap.size ≤ ga := hga
  have HST := hide (show x2.ownsRow w1.heap.size 9 1 (.slice (some ⟨ga, 0, none⟩) 8 ca) 8 (ovL ⟨#[111, 118, 101, 114]⟩ 0) ∧ x2.ownsRow x1.heap.size 9 1 (.slice (some ⟨gb, 0, none⟩) 8 cb) 8 (strs (pgN 8)) ∧ Below w1.heap.size w1 x2 from ⟨by rw [ovL_0]; exact owns_only (unhide X1).1 (Only.of_below (P := fun _ => False) hW2) (fun _ _ q => q), hB2, (unhide X1).2.trans (hW2.mono (unhide X1).2.size)⟩)
  clear hB2 hW2 X1
  go_wp2
  go_loopw [4] (fun i wr => ∃ k : Nat, k ≤ 8 ∧ i = .int .i64 (k : Int) ∧ wr.ownsRow w1.heap.size 9 1 (.slice (some ⟨ga, 0, none⟩) 8 ca) 8 (ovL ⟨#[111, 118, 101, 114]⟩ k) ∧ wr.ownsRow x1.heap.size 9 1 (.slice (some ⟨gb, 0, none⟩) 8 cb) 8 (strs (pgN 8)) ∧ Below w1.heap.size w1 wr) (fun i _ => 8 - (intOf i).toNat)
  case atStart => exact ⟨0, by omega, rfl, unhide HST⟩
  case round =>
    obtain ⟨k, hk, rfl, hA, hB, hW⟩ := hrel
    clear HST
    by_cases hkn : k < 8
    · have hkn' : (k : Int) < 8 := by omega
      have hk0 : (0 : Int) ≤ (k : Int) := by omega
      have ca0 : wr.cell? ⟨ga, k, none⟩ = some (.string (pgR (k + 1) Rc0)) := by rw [hA.cellAt k (by omega)]; exact ovL_at _ k hkn
      have cb0 : wr.cell? ⟨gb, k, none⟩ = some (.string (pgR (k + 1) Rc0)) := by rw [hB.cellAt k (by omega)]; exact pgN_val k hkn
      obtain ⟨wd, hwd⟩ : ∃ xx, wr.drew = xx := ⟨_, rfl⟩
      have OD : Only (fun _ => False) wr wd := by rw [← hwd]; exact Only.of_below ((Below.refl _ wr).drew)
      have hA' := owns_only hA OD (fun _ _ q => q)
      have hf := hA'.frozenAt k
      have ca1 : wd.cell? ⟨ga, k, none⟩ = some (.string (pgR (k + 1) Rc0)) := by rw [hA'.cellAt k (by omega)]; exact ovL_at _ k hkn
      have OS : Only (fun x => x = ga) wd (wd.setCell ⟨ga, k, none⟩ (.string ⟨#[111, 118, 101, 114]⟩)) := (Only.refl (fun x => x = ga) wd).setCell ⟨ga, k, none⟩ _ (fun _ => rfl)
      have hS := owns_set hA' (g := ga) rfl k (.string ⟨#[111, 118, 101, 114]⟩)
      rw [ovL_set] at hS
      have HF := hide (show (wd.setCell ⟨ga, k, none⟩ (.string ⟨#[111, 118, 101, 114]⟩)).ownsRow w1.heap.size 9 1 (.slice (some ⟨ga, 0, none⟩) 8 ca) 8 (ovL ⟨#[111, 118, 101, 114]⟩ (k + 1)) ∧ (wd.setCell ⟨ga, k, none⟩ (.string ⟨#[111, 118, 101, 114]⟩)).ownsRow x1.heap.size 9 1 (.slice (some ⟨gb, 0, none⟩) 8 cb) 8 (strs (pgN 8)) ∧ Below w1.heap.size w1 (wd.setCell ⟨ga, k, none⟩ (.string ⟨#[111, 118, 101, 114]⟩)) from ⟨hS, owns_only (owns_only hB OD (fun _ _ q => q)) OS (fun z hz e => by cases hz; exact absurd e (by first | exact hne | exact fun q => hne q.symm)), (by rw [← hwd]; exact (hW.drew).setCell hlo _)⟩)
      have hq : ((pgR (k + 1) Rc0).toList != (pgR (k + 1) Rc0).toList) = false := by simp
      generalize pgR (k + 1) Rc0 = tt at *
      have HS0 := hide (And.intro ca0 cb0)
      clear hA hB hW hA' OS OD hS ca0 cb0 
      go_wp2
      refine wp_region_held_drew (S := fun w' => w'.cell? ⟨ga, k, none⟩ = some (.string tt) ∧ w'.cell? ⟨gb, k, none⟩ = some (.string tt)) (by kernel_rfl) (unhide HS0) ?_
      intro hS
      refine wpAnyH_takeD 0 (some 28) (.slice (some ⟨ga, 0, none⟩) 8 ca) rfl rfl (by kernel_rfl) (by kernel_rfl) (by kernel_rfl) (fun _ _ _ h => h) (Or.inl ⟨by rfl, fun w hSw => by obtain ⟨a1, a2⟩ := hSw; go_simp⟩) hS ?_
      simp only [Act.put, List.setIfInBounds_toArray, List.set_cons_zero, List.set_cons_succ]
      refine wpAnyH_takeD 1 (some 29) (.int .i64 (k : Int)) rfl rfl (by kernel_rfl) (by kernel_rfl) (by kernel_rfl) (fun _ _ _ h => h) (Or.inl ⟨by rfl, fun w hSw => by obtain ⟨a1, a2⟩ := hSw; go_simp⟩) hS ?_
      simp only [Act.put, List.setIfInBounds_toArray, List.set_cons_zero, List.set_cons_succ]
      refine wpAnyH_takeD 2 (some 30) (.pointer (some ⟨ga, k, none⟩)) rfl rfl (by kernel_rfl) (by kernel_rfl) (by kernel_rfl) (fun _ _ _ h => h) (Or.inl ⟨by rfl, fun w hSw => by obtain ⟨a1, a2⟩ := hSw; go_simp⟩) hS ?_
      simp only [Act.put, List.setIfInBounds_toArray, List.set_cons_zero, List.set_cons_succ]
      refine wpAnyH_takeD 3 (some 31) (.string tt) rfl rfl (by kernel_rfl) (by kernel_rfl) (by kernel_rfl) (fun _ _ _ h => h) (Or.inl ⟨by rfl, fun w hSw => by obtain ⟨a1, a2⟩ := hSw; go_simp⟩) hS ?_
      simp only [Act.put, List.setIfInBounds_toArray, List.set_cons_zero, List.set_cons_succ]
      refine wpAnyH_takeD 4 (some 32) (.slice (some ⟨gb, 0, none⟩) 8 cb) rfl rfl (by kernel_rfl) (by kernel_rfl) (by kernel_rfl) (fun _ _ _ h => h) (Or.inl ⟨by rfl, fun w hSw => by obtain ⟨a1, a2⟩ := hSw; go_simp⟩) hS ?_
      simp only [Act.put, List.setIfInBounds_toArray, List.set_cons_zero, List.set_cons_succ]
      refine wpAnyH_takeD 5 (some 33) (.int .i64 (k : Int)) rfl rfl (by kernel_rfl) (by kernel_rfl) (by kernel_rfl) (fun _ _ _ h => h) (Or.inl ⟨by rfl, fun w hSw => by obtain ⟨a1, a2⟩ := hSw; go_simp⟩) hS ?_
      simp only [Act.put, List.setIfInBounds_toArray, List.set_cons_zero, List.set_cons_succ]
      refine wpAnyH_takeD 6 (some 34) (.pointer (some ⟨gb, k, none⟩)) rfl rfl (by kernel_rfl) (by kernel_rfl) (by kernel_rfl) (fun _ _ _ h => h) (Or.inl ⟨by rfl, fun w hSw => by obtain ⟨a1, a2⟩ := hSw; go_simp⟩) hS ?_
      simp only [Act.put, List.setIfInBounds_toArray, List.set_cons_zero, List.set_cons_succ]
      refine wpAnyH_takeD 7 (some 35) (.string tt) rfl rfl (by kernel_rfl) (by kernel_rfl) (by kernel_rfl) (fun _ _ _ h => h) (Or.inl ⟨by rfl, fun w hSw => by obtain ⟨a1, a2⟩ := hSw; go_simp⟩) hS ?_
      simp only [Act.put, List.setIfInBounds_toArray, List.set_cons_zero, List.set_cons_succ]
      refine wpAnyH_takeD 8 (some 36) (.bool false) rfl rfl (by kernel_rfl) (by kernel_rfl) (by kernel_rfl) (fun _ _ _ h => h) (Or.inl ⟨by rfl, fun w hSw => by obtain ⟨a1, a2⟩ := hSw; go_simp⟩) hS ?_
      simp only [Act.put, List.setIfInBounds_toArray, List.set_cons_zero, List.set_cons_succ]
      refine wpAnyH_done (by kernel_rfl) ?_ _
      rw [hwd]
      clear hS HS0 hwd
      go_wp2
      go_roundw
      case rel => exact ⟨k + 1, by omega, by go_num, unhide HF⟩
      case measure => simp [intOf]; omega
    · have hke : k = 8 := by omega
      have hkn' : ¬ (k : Int) < 8 := by omega
      rw [hke] at hA
      clear hke hk
      obtain ⟨wo, rfl⟩ : ∃ wo, wo = wr := ⟨_, rfl⟩
      have HA8 := hide hA
      have HBW := hide (And.intro hB hW)
      have HBA := hide (show w1.heap.size ≤ (wo.alloc (.cells #[.string ⟨#[111, 118, 101, 114]⟩] 9)).heap.size by have := hW.size; simp; omega)
      have hgao : ga < wo.heap.size := (hA.lt ga rfl).2
      clear hA hB hW
      go_wp2_with (refine wpList_append_own _ rfl (.tmp 40) (.tmp 41) 50 rfl (w1.heap.size) 9 i0 (.string ⟨#[]⟩) 1 16 Tryz.underlying50 (unhide HI).1 (unhide HI).2.1 (unhide HI).2.2.1 (unhide HI).2.2.2 rfl (by decide) _ 8 (ovL ⟨#[111, 118, 101, 114]⟩ 8) rfl ((unhide HA8).alloc _) ⟨wo.heap.size, 0, none⟩ 1 1 [.string ⟨#[111, 118, 101, 114]⟩] rfl rfl (fun q u hu => news_one wo 9 _ q u hu) (by simp [Value.oneCell']) (by unfold maxLen; omega) (by omega) (unhide HBA) ?_)
      intro v5 x5 ho5 hg5 _
      obtain ⟨gm, cm, rfl, hgm, hgml⟩ := row_some ho5 (by decide)
      have hB5 := (((unhide HBW).1.alloc (.cells #[.string ⟨#[111, 118, 101, 114]⟩] 9)).kept hg5 (.inr (by show some gb ≠ some ga; intro q; cases q; exact hne rfl)))
      have hW5 : Below w1.heap.size w1 x5 := ((unhide HBW).2.alloc (unhide HBW).2.size (.cells #[.string ⟨#[111, 118, 101, 114]⟩] 9)).grown hg5 (unhide HBA) (fun q hq => by cases hq; exact hlo)
      have X5 := hide (And.intro ho5 (And.intro hB5 hW5))
      clear ho5 hg5 hB5 hW5 HA8 HBW HBA hgao
      go_wp2_with fail
      refine (tinit_any _).mono ?_
      rintro e x6 ⟨vc, rfl, hC6, hW6⟩
      obtain ⟨gc, cc, rfl, hgc, hgcl⟩ := row_some hC6 (by decide)
      obtain ⟨hM5, hB5, hW5⟩ := unhide X5
      have hgbx : gb < x5.heap.size := (hB5.lt gb rfl).2
      have hne2 : gb ≠ gc := by omega
      have hnx2 : gm ≠ gc := by omega
      have hlo2 : w1.heap.size ≤ gc := by have := hW5.size; omega
      have HST := hide (show x6.ownsRow x5.heap.size 9 1 (.slice (some ⟨gc, 0, none⟩) 8 cc) 8 (ovL ⟨#[109, 105, 110, 101]⟩ 0) ∧ x6.ownsRow x1.heap.size 9 1 (.slice (some ⟨gb, 0, none⟩) 8 cb) 8 (strs (pgN 8)) ∧ Below w1.heap.size w1 x6 ∧ x6.ownsRow w1.heap.size 9 1 (.slice (some ⟨gm, 0, none⟩) 9 cm) 9 (ovL ⟨#[111, 118, 101, 114]⟩ 8 ++ [.string ⟨#[111, 118, 101, 114]⟩]) from ⟨by rw [ovL_0]; exact hC6, owns_only hB5 (Only.of_below (P := fun _ => False) hW6) (fun _ _ q => q), hW5.trans (hW6.mono hW5.size), owns_only hM5 (Only.of_below (P := fun _ => False) hW6) (fun _ _ q => q)⟩)
      clear hC6 hW6 hM5 hB5 hW5 X5 hgbx
      clear hne hlo
      have hne := hne2
      have hnx := hnx2
      have hlo := hlo2
      clear hne2 hnx2 hlo2
      go_wp2
      go_loopw [7] (fun i wr => ∃ k : Nat, k ≤ 8 ∧ i = .int .i64 (k : Int) ∧ wr.ownsRow x5.heap.size 9 1 (.slice (some ⟨gc, 0, none⟩) 8 cc) 8 (ovL ⟨#[109, 105, 110, 101]⟩ k) ∧ wr.ownsRow x1.heap.size 9 1 (.slice (some ⟨gb, 0, none⟩) 8 cb) 8 (strs (pgN 8)) ∧ Below w1.heap.size w1 wr ∧ wr.ownsRow w1.heap.size 9 1 (.slice (some ⟨gm, 0, none⟩) 9 cm) 9 (ovL ⟨#[111, 118, 101, 114]⟩ 8 ++ [.string ⟨#[111, 118, 101, 114]⟩])) (fun i _ => 8 - (intOf i).toNat)
      case atStart => exact ⟨0, by omega, rfl, unhide HST⟩
      case round =>
        obtain ⟨k, hk, rfl, hA, hB, hW, hX0⟩ := hrel
        clear HST
        by_cases hkn : k < 8
        · have hkn' : (k : Int) < 8 := by omega
          have hk0 : (0 : Int) ≤ (k : Int) := by omega
          have ca0 : wr.cell? ⟨gc, k, none⟩ = some (.string (pgR (k + 1) Rc0)) := by rw [hA.cellAt k (by omega)]; exact ovL_at _ k hkn
          have cb0 : wr.cell? ⟨gb, k, none⟩ = some (.string (pgR (k + 1) Rc0)) := by rw [hB.cellAt k (by omega)]; exact pgN_val k hkn
          obtain ⟨wd, hwd⟩ : ∃ xx, wr.drew = xx := ⟨_, rfl⟩
          have OD : Only (fun _ => False) wr wd := by rw [← hwd]; exact Only.of_below ((Below.refl _ wr).drew)
          have hA' := owns_only hA OD (fun _ _ q => q)
          have hf := hA'.frozenAt k
          have ca1 : wd.cell? ⟨gc, k, none⟩ = some (.string (pgR (k + 1) Rc0)) := by rw [hA'.cellAt k (by omega)]; exact ovL_at _ k hkn
          have OS : Only (fun x => x = gc) wd (wd.setCell ⟨gc, k, none⟩ (.string ⟨#[109, 105, 110, 101]⟩)) := (Only.refl (fun x => x = gc) wd).setCell ⟨gc, k, none⟩ _ (fun _ => rfl)
          have hS := owns_set hA' (g := gc) rfl k (.string ⟨#[109, 105, 110, 101]⟩)
          rw [ovL_set] at hS
          have HF := hide (show (wd.setCell ⟨gc, k, none⟩ (.string ⟨#[109, 105, 110, 101]⟩)).ownsRow x5.heap.size 9 1 (.slice (some ⟨gc, 0, none⟩) 8 cc) 8 (ovL ⟨#[109, 105, 110, 101]⟩ (k + 1)) ∧ (wd.setCell ⟨gc, k, none⟩ (.string ⟨#[109, 105, 110, 101]⟩)).ownsRow x1.heap.size 9 1 (.slice (some ⟨gb, 0, none⟩) 8 cb) 8 (strs (pgN 8)) ∧ Below w1.heap.size w1 (wd.setCell ⟨gc, k, none⟩ (.string ⟨#[109, 105, 110, 101]⟩)) ∧ (wd.setCell ⟨gc, k, none⟩ (.string ⟨#[109, 105, 110, 101]⟩)).ownsRow w1.heap.size 9 1 (.slice (some ⟨gm, 0, none⟩) 9 cm) 9 (ovL ⟨#[111, 118, 101, 114]⟩ 8 ++ [.string ⟨#[111, 118, 101, 114]⟩]) from ⟨hS, owns_only (owns_only hB OD (fun _ _ q => q)) OS (fun z hz e => by cases hz; exact absurd e (by first | exact hne | exact fun q => hne q.symm)), (by rw [← hwd]; exact (hW.drew).setCell hlo _), owns_only (owns_only hX0 OD (fun _ _ q => q)) OS (fun z hz e => by cases hz; exact absurd e hnx)⟩)
          have hq : ((pgR (k + 1) Rc0).toList != (pgR (k + 1) Rc0).toList) = false := by simp
          generalize pgR (k + 1) Rc0 = tt at *
          have HS0 := hide (And.intro ca0 cb0)
          clear hA hB hW hA' OS OD hS ca0 cb0 hX0
          go_wp2
          refine wp_region_held_drew (S := fun w' => w'.cell? ⟨gc, k, none⟩ = some (.string tt) ∧ w'.cell? ⟨gb, k, none⟩ = some (.string tt)) (by kernel_rfl) (unhide HS0) ?_
          intro hS
          refine wpAnyH_takeD 0 (some 55) (.slice (some ⟨gc, 0, none⟩) 8 cc) rfl rfl (by kernel_rfl) (by kernel_rfl) (by kernel_rfl) (fun _ _ _ h => h) (Or.inl ⟨by rfl, fun w hSw => by obtain ⟨a1, a2⟩ := hSw; go_simp⟩) hS ?_
          simp only [Act.put, List.setIfInBounds_toArray, List.set_cons_zero, List.set_cons_succ]
          refine wpAnyH_takeD 1 (some 56) (.int .i64 (k : Int)) rfl rfl (by kernel_rfl) (by kernel_rfl) (by kernel_rfl) (fun _ _ _ h => h) (Or.inl ⟨by rfl, fun w hSw => by obtain ⟨a1, a2⟩ := hSw; go_simp⟩) hS ?_
          simp only [Act.put, List.setIfInBounds_toArray, List.set_cons_zero, List.set_cons_succ]
          refine wpAnyH_takeD 2 (some 57) (.pointer (some ⟨gc, k, none⟩)) rfl rfl (by kernel_rfl) (by kernel_rfl) (by kernel_rfl) (fun _ _ _ h => h) (Or.inl ⟨by rfl, fun w hSw => by obtain ⟨a1, a2⟩ := hSw; go_simp⟩) hS ?_
          simp only [Act.put, List.setIfInBounds_toArray, List.set_cons_zero, List.set_cons_succ]
          refine wpAnyH_takeD 3 (some 58) (.string tt) rfl rfl (by kernel_rfl) (by kernel_rfl) (by kernel_rfl) (fun _ _ _ h => h) (Or.inl ⟨by rfl, fun w hSw => by obtain ⟨a1, a2⟩ := hSw; go_simp⟩) hS ?_
          simp only [Act.put, List.setIfInBounds_toArray, List.set_cons_zero, List.set_cons_succ]
          refine wpAnyH_takeD 4 (some 59) (.slice (some ⟨gb, 0, none⟩) 8 cb) rfl rfl (by kernel_rfl) (by kernel_rfl) (by kernel_rfl) (fun _ _ _ h => h) (Or.inl ⟨by rfl, fun w hSw => by obtain ⟨a1, a2⟩ := hSw; go_simp⟩) hS ?_
          simp only [Act.put, List.setIfInBounds_toArray, List.set_cons_zero, List.set_cons_succ]
          refine wpAnyH_takeD 5 (some 60) (.int .i64 (k : Int)) rfl rfl (by kernel_rfl) (by kernel_rfl) (by kernel_rfl) (fun _ _ _ h => h) (Or.inl ⟨by rfl, fun w hSw => by obtain ⟨a1, a2⟩ := hSw; go_simp⟩) hS ?_
          simp only [Act.put, List.setIfInBounds_toArray, List.set_cons_zero, List.set_cons_succ]
          refine wpAnyH_takeD 6 (some 61) (.pointer (some ⟨gb, k, none⟩)) rfl rfl (by kernel_rfl) (by kernel_rfl) (by kernel_rfl) (fun _ _ _ h => h) (Or.inl ⟨by rfl, fun w hSw => by obtain ⟨a1, a2⟩ := hSw; go_simp⟩) hS ?_
          simp only [Act.put, List.setIfInBounds_toArray, List.set_cons_zero, List.set_cons_succ]
          refine wpAnyH_takeD 7 (some 62) (.string tt) rfl rfl (by kernel_rfl) (by kernel_rfl) (by kernel_rfl) (fun _ _ _ h => h) (Or.inl ⟨by rfl, fun w hSw => by obtain ⟨a1, a2⟩ := hSw; go_simp⟩) hS ?_
          simp only [Act.put, List.setIfInBounds_toArray, List.set_cons_zero, List.set_cons_succ]
          refine wpAnyH_takeD 8 (some 63) (.bool false) rfl rfl (by kernel_rfl) (by kernel_rfl) (by kernel_rfl) (fun _ _ _ h => h) (Or.inl ⟨by rfl, fun w hSw => by obtain ⟨a1, a2⟩ := hSw; go_simp⟩) hS ?_
          simp only [Act.put, List.setIfInBounds_toArray, List.set_cons_zero, List.set_cons_succ]
          refine wpAnyH_done (by kernel_rfl) ?_ _
          rw [hwd]
          clear hS HS0 hwd
          go_wp2
          go_roundw
          case rel => exact ⟨k + 1, by omega, by go_num, unhide HF⟩
          case measure => simp [intOf]; omega
        · have hke : k = 8 := by omega
          have hkn' : ¬ (k : Int) < 8 := by omega
          rw [hke] at hA
          clear hke hk
          obtain ⟨wo, rfl⟩ : ∃ wo, wo = wr := ⟨_, rfl⟩
          have HA8 := hide hA
          have HBW := hide (And.intro hX0 hW)
          have HBA := hide (show x5.heap.size ≤ (wo.alloc (.cells #[.string ⟨#[109, 105, 110, 101]⟩] 9)).heap.size by have := (hA.lt gc rfl); simp; omega)
          clear hA hB hW hX0
          go_wp2_with (refine wpList_append_own _ rfl (.tmp 67) (.tmp 68) 50 rfl (x5.heap.size) 9 i0 (.string ⟨#[]⟩) 1 16 Tryz.underlying50 (unhide HI).1 (unhide HI).2.1 (unhide HI).2.2.1 (unhide HI).2.2.2 rfl (by decide) _ 8 (ovL ⟨#[109, 105, 110, 101]⟩ 8) rfl ((unhide HA8).alloc _) ⟨wo.heap.size, 0, none⟩ 1 1 [.string ⟨#[109, 105, 110, 101]⟩] rfl rfl (fun q u hu => news_one wo 9 _ q u hu) (by simp [Value.oneCell']) (by unfold maxLen; omega) (by omega) (unhide HBA) ?_)
          intro v7 x7 ho7 hg7 _
          obtain ⟨gn, cn, rfl, hgn, hgnl⟩ := row_some ho7 (by decide)
          have hM7 := (((unhide HBW).1.alloc (.cells #[.string ⟨#[109, 105, 110, 101]⟩] 9)).kept hg7 (.inr (by show some gm ≠ some gc; intro q; cases q; exact hnx rfl)))
          have hW7 : Below w1.heap.size w1 x7 := ((unhide HBW).2.alloc (unhide HBW).2.size (.cells #[.string ⟨#[109, 105, 110, 101]⟩] 9)).grown hg7 (by have := (unhide HBW).2.size; simp; omega) (fun q hq => by cases hq; exact hlo)
          have HC7 := hide (show ∀ k, k < 9 → x7.cell? ⟨gm, k, none⟩ = some (.string ⟨#[111, 118, 101, 114]⟩) from fun k hk => by rw [hM7.cellAt k (by omega)]; exact ovL_8 _ k hk)
          have HW7 := hide ((unhide HB1).trans (hW7.mono (unhide HB1).size))
          clear ho7 hg7 hM7 hW7 HA8 HBW HBA
          go_wp2
          go_loopw [9] (fun i wr => ∃ k : Nat, k ≤ 9 ∧ i = .int .i64 (k : Int) ∧ wr = x7) (fun i _ => 9 - (intOf i).toNat)
          case atStart => exact ⟨0, by omega, rfl, rfl⟩
          case round =>
            obtain ⟨k, hk, rfl, hwr⟩ := hrel
            subst hwr
            by_cases hkn : k < 9
            · have hkn' : (k : Int) < 9 := by omega
              have hk0 : (0 : Int) ≤ (k : Int) := by omega
              have cm0 := unhide HC7 k hkn
              go_wp2
              go_roundw
              case rel => exact ⟨k + 1, by omega, by go_num, by first | rfl | trivial⟩
              case measure => simp [intOf]; omega
            · have hkn' : ¬ (k : Int) < 9 := by omega
              go_wp2
              go_ret
              exact ⟨rfl, unhide HW7⟩
end Go.Proofs.YtbpcgephicmhhaaGreatDoor
