import Derived.Test.YtkileaocgecckaaDoorQrc
import Derived.Test.YtkileaocgecckaaDoorQlh
import Derived.Test.YtkileaocgecckaaDoorQla
import Derived.Test.YtkileaocgecckaaDoorQlb
namespace Go.Proofs.YtkileaocgecckaaDoor
open Go.RowKit
set_option maxRecDepth 100000
set_option maxHeartbeats 1000000 in
theorem rNode_any (a b : ByteArray) (w : World) : Calls Tryd.prog 30 #[.string a, .string b] w fun e w' => e = .returned (.tuple #[.string (nodV a b), .int .i64 (nodE a b)]) ∧ Below w.heap.size w w' := by
  have HB0 := hide (show Below w.heap.size w w from Below.refl _ _)
  by_cases ha : a.size = 32
  · by_cases hb : b.size = 32
    · have HN := hide (rnode_any a b ha hb w)
      rw [nodV, nodE, if_pos ⟨ha, hb⟩, if_pos ⟨ha, hb⟩]
      have e1 : ((a.size : Int) != 32) = false := by rw [ha]; rfl
      have e2 : ((b.size : Int) != 32) = false := by rw [hb]; rfl
      generalize ndB a b = r at *
      go_enter Tryd.func30, Tryd.ntmps30
      go_wp2_with fail
      refine (unhide HN).mono ?_
      rintro e z ⟨rfl, hb⟩
      have HB := hide hb
      clear hb HN
      go_wp2
      go_ret2
      exact ⟨rfl, unhide HB⟩
    · rw [nodV, nodE, if_neg (fun q => hb q.2), if_neg (fun q => hb q.2)]
      have e1 : ((a.size : Int) != 32) = false := by rw [ha]; rfl
      have e2 : ((b.size : Int) != 32) = true := by simp; omega
      go_enter Tryd.func30, Tryd.ntmps30
      go_wp2
      go_ret2
      exact ⟨rfl, unhide HB0⟩
  · rw [nodV, nodE, if_neg (fun q => ha q.1), if_neg (fun q => ha q.1)]
    have e1 : ((a.size : Int) != 32) = true := by simp; omega
    go_enter Tryd.func30, Tryd.ntmps30
    go_wp2
    go_ret2
    exact ⟨rfl, unhide HB0⟩
theorem some19 (w : World) (l : List ByteArray) (q c B : Nat) (m : Nat) (p : Option Addr) (hq : l.length = q) (hS : SB w B p l) (hqc : q ≤ c) : Calls Tryd.prog 17 #[.slice p q c, .int .i64 (m : Int)] w fun e w' => e = .returned (.slice p (min q m) c) ∧ w' = w := by
  by_cases h : m < q
  · obtain ⟨g, o, rfl, _, _⟩ := hS 0 (by omega)
    rw [Nat.min_eq_right (by omega)]
    have e1 : (m : Int) < (q : Int) := by omega
    have e2 : (m : Int) ≤ (c : Int) := by omega
    clear hS hq
    go_enter Tryd.func17, Tryd.ntmps17
    go_wp2
    go_ret
    exact ⟨rfl, rfl⟩
  · rw [Nat.min_eq_left (by omega)]
    have e1 : ¬ (m : Int) < (q : Int) := by omega
    clear hS hq
    go_enter Tryd.func17, Tryd.ntmps17
    go_wp2
    go_ret
    exact ⟨rfl, rfl⟩
def apB : ByteArray := ⟨#[39]⟩
def unL (l : List ByteArray) : List ByteArray := l.map (· ++ apB)
theorem unL_len (l : List ByteArray) : (unL l).length = l.length := by simp [unL]
theorem unL_sht {l : List ByteArray} (h : ∀ j, j < l.length → (l.getD j ⟨#[]⟩).size ≤ 140737488351232) : Sht (unL l) := fun j hj => by
  rw [unL_len] at hj
  have := h j hj
  rw [List.getD_eq_getElem?_getD, List.getElem?_eq_getElem hj] at this
  rw [unL, List.getD_eq_getElem?_getD, List.getElem?_map, List.getElem?_eq_getElem hj]
  simp only [Option.map_some, Option.getD_some, ByteArray.size_append] at this ⊢
  have : apB.size = 1 := rfl
  omega
theorem unL_take (l : List ByteArray) (k : Nat) (hk : k < l.length) : unL (l.take (k + 1)) = unL (l.take k) ++ [l.getD k ⟨#[]⟩ ++ apB] := by
  unfold unL
  rw [List.take_add_one, List.getElem?_eq_getElem hk, List.map_append, List.getD_eq_getElem?_getD, List.getElem?_eq_getElem hk]
  rfl
set_option maxHeartbeats 1000000 in
theorem unlike19 (w : World) (l : List ByteArray) (q c B : Nat) (p : Option Addr) (hq : l.length = q) (hS : SB w B p l) (hB : B ≤ w.heap.size) (hz : ∀ j, j < l.length → (l.getD j ⟨#[]⟩).size ≤ 140737488351232) (hq5 : q ≤ 65536) : Calls Tryd.prog 32 #[.slice p q c] w (LQ w (unL l)) := by
  obtain ⟨h, hh⟩ : ∃ h, w.heap.size = h := ⟨_, rfl⟩
  obtain ⟨i0, hi, hz0, hz1, hz2⟩ := info_parts gr_str
  have HI := hide (And.intro hi (And.intro hz0 (And.intro hz1 hz2)))
  have HS := hide (show ∀ W, Below h w W → SB W B p l from fun W hW => hS.below (hW.mono (by omega)))
  have HQ := hide hq
  have HZ := hide hz
  have HU0 := hide (show (unL (l.take 0)) = [] from rfl)
  have HUK := hide (fun k hk => unL_take l k hk)
  clear hi hz0 hz1 hz2 hS hq hz
  go_enter Tryd.func32, Tryd.ntmps32
  go_wp2
  go_loopw [3, 4] (fun lv i wr => ∃ k : Nat, k ≤ q ∧ i = .int .i64 (k : Int) ∧ Hid (wr.ownsRow h 9 1 lv k ((unL (l.take k)).map Value.string) ∧ Below h w wr)) (fun _ i _ => q - (intOf i).toNat)
  case atStart => exact ⟨0, by omega, rfl, by rw [unhide HU0]; exact ⟨rfl, .inl ⟨rfl, rfl⟩⟩, Below.refl _ _⟩
  case round =>
  obtain ⟨k, hk, rfl, HK⟩ := hrel
  obtain ⟨wi, rfl⟩ : ∃ z, z = wr := ⟨_, rfl⟩
  obtain ⟨pv, cv, rfl, _⟩ := gr_form (unhide HK).1
  by_cases hkq : k < q
  case neg =>
    obtain rfl : k = q := by omega
    have e1 : ¬ (k : Int) < (k : Int) := by omega
    have HE := hide (show LQ w (unL l) (.returned (.slice pv k cv)) wi from ⟨_, rfl, by rw [hh, unL_len, unhide HQ]; have := (unhide HK).1; rw [List.take_of_length_le (by rw [unhide HQ]; exact Nat.le_refl _)] at this; exact this, by rw [hh]; exact (unhide HK).2⟩)
    clear HK
    go_wp2
    go_ret
    exact unhide HE
  have e1 : (k : Int) < (q : Int) := by omega
  obtain ⟨g, o, rfl, _, hc⟩ := unhide HS wi (unhide HK).2 k (by rw [unhide HQ]; exact hkq)
  have htz := unhide HZ k (by rw [unhide HQ]; exact hkq)
  have HU := hide (unhide HUK k (by rw [unhide HQ]; exact hkq))
  generalize l.getD k ⟨#[]⟩ = t at *
  obtain ⟨u, hu⟩ : ∃ z, t ++ (⟨#[39]⟩ : ByteArray) = z := ⟨_, rfl⟩
  rw [show t ++ apB = u from hu] at HU
  have z0 : (⟨#[39]⟩ : ByteArray).size = 1 := rfl
  have HO := hide ((unhide HK).1.alloc (.cells #[.string u] 9))
  have HB := hide (unhide HK).2
  have hs := (unhide HK).2.size
  have HUL := hide (show ((unL (l.take k)).map Value.string).length = k from by rw [List.length_map, unL_len, List.length_take, unhide HQ]; omega)
  clear HK
  go_wp2_with (refine wpList_append_lies _ rfl (.tmp 11) (.tmp 17) 28 rfl h 9 i0 (.string ⟨#[]⟩) 1 16 Tryd.underlying28 (unhide HI).1 (unhide HI).2.1 (unhide HI).2.2.1 (unhide HI).2.2.2 rfl (by decide) _ k _ rfl (unhide HO) ⟨wi.heap.size, 0, none⟩ 1 1 [.string u] rfl rfl (fun q u hu => gr_new wi 9 _ q u hu) (by simp [Value.oneCell']) (by decide) (by unfold maxLen; omega) (by omega) (by simp; omega) (wi.heap.size + 1) (by simp) ?_)
  intro g5 cap5 x5 ho5 hg5 _ _
  have HN := hide (show x5.ownsRow h 9 1 (.slice (some ⟨g5, 0, none⟩) (k + 1) cap5) (k + 1) ((unL (l.take (k + 1))).map Value.string) ∧ Below h w x5 from ⟨by rw [unhide HU, List.map_append]; exact ho5, ((unhide HB).alloc (by omega) _).grown hg5 (by simp; omega) (fun q hq => ((unhide HO).lt q hq).1)⟩)
  clear ho5 hg5 HO HB
  go_wp2
  go_roundw
  case rel => exact ⟨k + 1, by omega, by go_num, HN⟩
  case measure => simp [intOf] <;> omega
/-- other texts are copied over a row that was lent -/
theorem over_copy (y : World) (g : Nat) (l L2 : List ByteArray) (q c2 base : Nat) (p2 : Option Addr) (hL2 : L2.length = q) (hL : LnK y g l q (q + 8)) (ho : y.ownsRow base 9 1 (.slice p2 q c2) q (L2.map Value.string)) : ∃ x, (∀ ty, (Builtin.copy_ #[28, 28] ty #[.slice (some ⟨g, 0, none⟩) (q + 8) (q + 8), .slice p2 q c2]).run Tryd.prog y = .ok (.int .i64 (q : Int)) x) ∧ SB x (g + 1) (some ⟨g, 0, none⟩) L2 ∧ (∀ B w, B ≤ g → Below B w y → Below B w x) ∧ (∀ k, k ≠ g → x.heap[k]? = y.heap[k]?) := by
  obtain ⟨i0, hi, hz0, hz1, hz2⟩ := info_parts gr_str
  obtain ⟨cur, hB, hsz, _, _⟩ := hL
  rcases ho.2 with ⟨e1, e2⟩ | ⟨g2, cap2, cur2, e1, hb2, hg2, hn2, hc2, hs2, hx2⟩
  · obtain ⟨rfl, rfl, rfl⟩ : p2 = none ∧ q = 0 ∧ c2 = 0 := by injection e1 with a b c; exact ⟨a, e2, c⟩
    obtain rfl : L2 = [] := List.eq_nil_of_length_eq_zero hL2
    exact ⟨y, fun ty => run_copy_nil (P := Tryd.prog) y 28 28 ty 9 _ _ _ Tryd.underlying28 (by rw [hi]; rfl), SB.nil _ _ _, fun _ _ _ h => h, fun _ _ => rfl⟩
  · obtain ⟨rfl, rfl⟩ : p2 = some ⟨g2, 0, none⟩ ∧ c2 = cap2 := by injection e1 with a _ c; exact ⟨a, c⟩
    have hlm : (L2.map Value.string).length = q := by rw [List.length_map, hL2]
    refine ⟨y.setRow g ((L2.map Value.string) ++ cur.toList.drop q).toArray, fun ty => ?_, fun j hj => ⟨g, 0, rfl, by omega, ?_⟩, fun B w hB0 hb => below_setRow hb hB0 _, fun k hk => ?_⟩
    · have := run_copy_row (P := Tryd.prog) y 28 28 ty 9 g 0 (q + 8) (q + 8) ⟨g2, 0, none⟩ q c2 cur 9 (L2.map Value.string) Tryd.underlying28 (by rw [hi]; simp [hz1]) hB (by rw [hlm]; exact (Nat.min_eq_left (by omega)).symm) (ho.cells rfl) (by rw [hlm, hsz]; omega) (by simp [Value.oneCell'])
      rw [hlm, Nat.zero_add] at this
      exact this
    · have hN : Blk (y.setRow g ((L2.map Value.string) ++ cur.toList.drop q).toArray) g ((L2.map Value.string) ++ cur.toList.drop q).toArray 9 := setRow_heap y g cur _ 9 (0, 0) hB
      rw [Nat.zero_add, hN.cell, List.getElem?_toArray, List.getElem?_append_left (by omega), List.getElem?_map, List.getElem?_eq_getElem hj, List.getD_eq_getElem?_getD, List.getElem?_eq_getElem hj]
      rfl
    · rw [World.setRow]
      simp only [Array.getElem?_modify, Ne.symm hk, if_false]
set_option maxHeartbeats 4000000 in
theorem roots19 (s a b : ByteArray) (hs : s.size ≤ 140737488351232) (l0 : List ByteArray) (q0 : Nat) (hq0 : l0.length = q0) (w : World) (c : Nat) (p : Option Addr) (hS0 : SB w w.heap.size p l0) (hz0 : ∀ j, j < l0.length → (l0.getD j ⟨#[]⟩).size ≤ 140737488351232) (hK : KTab w) (hqc0 : q0 ≤ c) (hc9 : c ≤ 9223372036854775807) (hpn : p = none → c = 0) : Calls Tryd.prog 8 #[.string s, .string a, .string b, .slice p q0 c] w fun e w' => e = .returned (.bool true) ∧ Below w.heap.size w w' := by
  obtain ⟨h, hh⟩ : ∃ h, w.heap.size = h := ⟨_, rfl⟩
  rw [hh] at hS0
  have HKB := hide (show ∀ W, Below h w W → KTab W from fun W hW => hK.below hW (by rw [← hh]; exact hK.1))
  have HSO := hide (fun W (hW : Below h w W) => some19 W l0 q0 c h 5000 p hq0 (hS0.below hW) hqc0)
  obtain ⟨l, hl⟩ : ∃ z, l0.take 5000 = z := ⟨_, rfl⟩
  obtain ⟨q, hq⟩ : ∃ z, min q0 5000 = z := ⟨_, rfl⟩
  have hlq : l.length = q := by rw [← hl, ← hq, List.length_take, hq0, Nat.min_comm]
  have hz : ∀ j, j < l.length → (l.getD j ⟨#[]⟩).size ≤ 140737488351232 := fun j hj => by
    rw [← hl, List.length_take] at hj
    rw [← hl, getD_take l0 5000 j (by omega)]
    exact hz0 j (by omega)
  have hS : SB w h p l := fun j hj => by
    rw [← hl, List.length_take] at hj
    obtain ⟨g, o, e, hg, hc⟩ := hS0 j (by omega)
    exact ⟨g, o, e, hg, by rw [← hl, getD_take l0 5000 j (by omega)]; exact hc⟩
  rw [hq] at HSO
  have hq5 : q ≤ 5000 := by omega
  have hqc : q ≤ c := by omega
  have hsh : Sht l := fun j hj => by have := hz j hj; omega
  have hsh2 := unL_sht hz
  have hu := unL_len l
  rw [hlq] at hu
  have HSB := hide (show ∀ W, Below h w W → SB W h p l from fun W hW => hS.below hW)
  have HAW := hide (fun W (hW : Below h w W) => awake19 W (unhide HKB W hW))
  have HND := hide (fun W (hW : Below h w W) => node_any a b W (unhide HKB W hW))
  have HRN := hide (fun W => rNode_any a b W)
  have HLE := hide (fun W (hW : Below h w W) => lent19 W l q c p hlq ((unhide HSB W hW).mono (by have := hW.size; omega)) (by omega) hpn)
  have HR1 := hide (fun W g (hW : Below h w W) (hL : LnK W g l q (q + 8)) (hg : g < W.heap.size) => root_any l q hlq W (g + 1) (q + 8) (some ⟨g, 0, none⟩) (hL.SB hlq) (by omega) (unhide HKB W hW) hsh (by omega) (by omega) (by omega))
  have HRR1 := hide (fun W (hW : Below h w W) => rroot_any q l hlq W h c p (unhide HSB W hW) (by have := hW.size; omega) hsh (by omega) hqc hc9)
  have HKE := hide (fun W g (hW : Below h w W) (hL : LnK W g l q (q + 8)) => kept19 W l g q c p h hlq hL (unhide HSB W hW) (by omega))
  have HUN := hide (fun W (hW : Below h w W) => unlike19 W l q c h p hlq (unhide HSB W hW) (by have := hW.size; omega) hz (by omega))
  have HOC := hide (fun y g c2 base p2 hL ho => over_copy y g l (unL l) q c2 base p2 hu hL ho)
  have HR2 := hide (fun W g (hW : Below h w W) (hL : SB W (g + 1) (some ⟨g, 0, none⟩) (unL l)) (hg : g < W.heap.size) => root_any (unL l) q hu W (g + 1) (q + 8) (some ⟨g, 0, none⟩) hL (by omega) (unhide HKB W hW) hsh2 (by omega) (by omega) (by omega))
  have HRR2 := hide (fun W c2 p2 base (hW : W.ownsRow base 9 1 (.slice p2 q c2) q ((unL l).map Value.string)) (hcc : q ≤ c2 ∧ c2 ≤ 9223372036854775807) => rroot_any q (unL l) hu W W.heap.size c2 p2 (own_SB hu hW) (Nat.le_refl _) hsh2 (by omega) hcc.1 hcc.2)
  have HLF := hide (fun W (hW : Below h w W) => leaf_any s (by omega) W (unhide HKB W hW))
  have HRL := hide (fun W => rleaf_any s (by omega) W)
  have HUL := hide hu
  have HB0 := hide (show Below h w w from Below.refl _ _)
  generalize rt l = r1 at *
  generalize rt (unL l) = r2 at *
  generalize lf s = ls at *
  generalize nodV a b = nv at *
  generalize nodE a b = ne at *
  generalize unL l = ul at *
  have e8 : (q : Int) ≤ (q : Int) + 8 := by omega
  rw [hh]
  clear hS0 hS hK hz hz0 hsh hsh2 hl hq hlq hq0 hu hs hqc0 hpn
  go_enter Tryd.func8, Tryd.ntmps8
  go_wp2_with fail
  refine (unhide HAW _ (unhide HB0)).mono ?_
  rintro e y1 ⟨rfl, hb⟩
  have HB1 := hide (show Below h w y1 from (unhide HB0).trans (hb.mono (by have := (unhide HB0).size; omega)))
  clear hb HB0
  go_wp2_with fail
  refine (unhide HND _ (unhide HB1)).mono ?_
  rintro e y2 ⟨rfl, hb⟩
  have HB2 := hide (show Below h w y2 from (unhide HB1).trans (hb.mono (by have := (unhide HB1).size; omega)))
  clear hb HB1
  go_wp2_with fail
  refine (unhide HRN _).mono ?_
  rintro e y3 ⟨rfl, hb⟩
  have HB3 := hide (show Below h w y3 from (unhide HB2).trans (hb.mono (by have := (unhide HB2).size; omega)))
  clear hb HB2
  go_wp2_with fail
  refine (unhide HSO _ (unhide HB3)).mono ?_
  rintro e y ⟨rfl, hy⟩
  subst y
  go_wp2_with fail
  refine (unhide HLE _ (unhide HB3)).mono ?_
  rintro e y4 ⟨rfl, HL, hb⟩
  have HB4 := hide (show Below h w y4 from (unhide HB3).trans (hb.mono (by have := (unhide HB3).size; omega)))
  obtain ⟨g, hg⟩ : ∃ z, y3.heap.size = z := ⟨_, rfl⟩
  have hgh : h ≤ g := by have := (unhide HB3).size; omega
  rw [hg] at HL
  have hgs : g < y4.heap.size := by
    obtain ⟨cur, hB, _⟩ := unhide HL
    exact hB.lt
  clear hb HB3
  go_wp2_with fail
  refine (unhide HR1 _ g (unhide HB4) (unhide HL) hgs).mono ?_
  rintro e y5 ⟨rfl, hb⟩
  have HB5 := hide (show Below h w y5 from (unhide HB4).trans (hb.mono (by have := (unhide HB4).size; omega)))
  have HL5 := hide ((unhide HL).below (hb.mono (by omega)))
  have hgs5 : g < y5.heap.size := by have := hb.size; omega
  clear hb HB4 HL hgs
  go_wp2_with fail
  refine (unhide HRR1 _ (unhide HB5)).mono ?_
  rintro e y6 ⟨rfl, hb⟩
  have HB6 := hide (show Below h w y6 from (unhide HB5).trans (hb.mono (by have := (unhide HB5).size; omega)))
  have HL6 := hide ((unhide HL5).below (hb.mono (by omega)))
  have hgs6 : g < y6.heap.size := by have := hb.size; omega
  clear hb HB5 HL5 hgs5
  go_wp2_with fail
  refine (unhide HKE _ g (unhide HB6) (unhide HL6)).mono ?_
  rintro e y7 ⟨rfl, hb⟩
  have HB7 := hide (show Below h w y7 from (unhide HB6).trans (hb.mono (by have := (unhide HB6).size; omega)))
  have HL7 := hide ((unhide HL6).below (hb.mono (by omega)))
  have hgs7 : g < y7.heap.size := by have := hb.size; omega
  clear hb HB6 HL6 hgs6
  go_wp2_with fail
  refine (unhide HUN _ (unhide HB7)).mono ?_
  rintro e y8 ⟨v, rfl, ho, hb⟩
  rw [unhide HUL] at ho
  obtain ⟨p2, c2, rfl, _⟩ := gr_form ho
  have HB8 := hide (show Below h w y8 from (unhide HB7).trans (hb.mono (by have := (unhide HB7).size; omega)))
  obtain ⟨x8, hcp, hsb, hbe, _⟩ := unhide HOC y8 g c2 _ p2 ((unhide HL7).below (hb.mono (by omega))) ho
  have HB9 := hide (hbe h w hgh (unhide HB8))
  have HSX := hide hsb
  have hgs8 : g < x8.heap.size := by
    have q1 := hb.size
    have q2 := (hbe g y8 (Nat.le_refl _) (Below.refl _ _)).size
    omega
  clear ho hb hsb hbe HB7 HB8 HL7 hgs7
  go_wp2_with fail
  refine (unhide HR2 _ g (unhide HB9) (unhide HSX) hgs8).mono ?_
  rintro e y9 ⟨rfl, hb⟩
  have HB10 := hide (show Below h w y9 from (unhide HB9).trans (hb.mono (by have := (unhide HB9).size; omega)))
  clear hb HB9 HSX hgs8 hcp
  go_wp2_with fail
  refine (unhide HUN _ (unhide HB10)).mono ?_
  rintro e y10 ⟨v, rfl, ho, hb⟩
  rw [unhide HUL] at ho
  have hcc : ∃ p3 c3, v = .slice p3 q c3 ∧ q ≤ c3 ∧ c3 ≤ 9223372036854775807 := by
    rcases ho.2 with ⟨e1, e2⟩ | ⟨g2, cap2, cur2, e1, _, _, hn2, hc2, _⟩
    · exact ⟨none, 0, by rw [e1, e2], by omega, by omega⟩
    · exact ⟨_, cap2, e1, hn2, hc2⟩
  obtain ⟨p3, c3, rfl, hcc⟩ := hcc
  have HB11 := hide (show Below h w y10 from (unhide HB10).trans (hb.mono (by have := (unhide HB10).size; omega)))
  have HQ3 := hide (unhide HRR2 y10 c3 p3 _ ho hcc)
  clear ho hb HB10
  go_wp2_with fail
  refine (unhide HQ3).mono ?_
  rintro e y11 ⟨rfl, hb⟩
  have HB12 := hide (show Below h w y11 from (unhide HB11).trans (hb.mono (by have := (unhide HB11).size; omega)))
  clear hb HB11
  go_wp2_with fail
  refine (unhide HLF _ (unhide HB12)).mono ?_
  rintro e y12 ⟨rfl, hb⟩
  have HB13 := hide (show Below h w y12 from (unhide HB12).trans (hb.mono (by have := (unhide HB12).size; omega)))
  clear hb HB12
  go_wp2_with fail
  refine (unhide HRL _).mono ?_
  rintro e y13 ⟨rfl, hb⟩
  have HB14 := hide (show Below h w y13 from (unhide HB13).trans (hb.mono (by have := (unhide HB13).size; omega)))
  clear hb HB13
  go_wp2
  go_ret
  exact ⟨rfl, unhide HB14⟩
end Go.Proofs.YtkileaocgecckaaDoor
