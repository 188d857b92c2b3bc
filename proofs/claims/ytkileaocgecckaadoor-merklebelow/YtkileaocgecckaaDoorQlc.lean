import Derived.Test.YtkileaocgecckaaDoorQla
import Derived.Test.YtkileaocgecckaaDoorQlb
namespace Go.Proofs.YtkileaocgecckaaDoor
open Go.RowKit
set_option maxRecDepth 100000
theorem rt_3' (a b c : ByteArray) : rt [a, b, c] = ndB (ndB (lf a) (lf b)) (lf c) := rt_3 a b c
theorem rt_2' (a b : ByteArray) : rt [a, b] = ndB (lf a) (lf b) := rt_2 a b
theorem rt_1' (a : ByteArray) : rt [a] = lf a := rt_one a
set_option maxHeartbeats 4000000 in
theorem below19 (a b c : ByteArray) (ha : a.size ≤ 140737488351232) (hb : b.size ≤ 140737488351232) (hc : c.size ≤ 140737488351232) (w : World) (hK : KTab w) : Calls Tryd.prog 3 #[.string a, .string b, .string c] w fun e w' => e = .returned (.bool true) ∧ Below w.heap.size w w' := by
  obtain ⟨h, hh⟩ : ∃ h, w.heap.size = h := ⟨_, rfl⟩
  have HKB := hide (show ∀ W, Below h w W → KTab W from fun W hW => hK.below hW (by rw [← hh]; exact hK.1))
  have HAW := hide (fun W (hW : Below h w W) => awake19 W (unhide HKB W hW))
  have HSa := hide (fun W (hW : Below h w W) => hsum_any (mk0 ++ a) (by rw [ByteArray.size_append, mk0_size]; omega) W (unhide HKB W hW) _ rfl W (Below.refl _ _))
  have HSb := hide (fun W (hW : Below h w W) => hsum_any (mk0 ++ b) (by rw [ByteArray.size_append, mk0_size]; omega) W (unhide HKB W hW) _ rfl W (Below.refl _ _))
  have HSc := hide (fun W (hW : Below h w W) => hsum_any (mk0 ++ c) (by rw [ByteArray.size_append, mk0_size]; omega) W (unhide HKB W hW) _ rfl W (Below.refl _ _))
  rw [show dg (mk0 ++ a) = lf a from rfl] at HSa
  rw [show dg (mk0 ++ b) = lf b from rfl] at HSb
  rw [show dg (mk0 ++ c) = lf c from rfl] at HSc
  have HND := hide (fun W (hW : Below h w W) => node_any (lf a) (lf b) W (unhide HKB W hW))
  rw [show nodV (lf a) (lf b) = ndB (lf a) (lf b) from if_pos ⟨lf_size _, lf_size _⟩, show nodE (lf a) (lf b) = 0 from if_pos ⟨lf_size _, lf_size _⟩] at HND
  have HSn := hide (fun W (hW : Below h w W) => hsum_any (mk1 ++ lf a ++ lf b) (by simp only [ByteArray.size_append, mk1_size, lf_size]; omega) W (unhide HKB W hW) _ rfl W (Below.refl _ _))
  rw [show dg (mk1 ++ lf a ++ lf b) = ndB (lf a) (lf b) from rfl] at HSn
  have HSt := hide (fun W (hW : Below h w W) => hsum_any (mk1 ++ ndB (lf a) (lf b) ++ lf c) (by simp only [ByteArray.size_append, mk1_size, lf_size, ndB_size]; omega) W (unhide HKB W hW) _ rfl W (Below.refl _ _))
  rw [show dg (mk1 ++ ndB (lf a) (lf b) ++ lf c) = ndB (ndB (lf a) (lf b)) (lf c) from rfl] at HSt
  have HS0 := hide (fun W (hW : Below h w W) => hsum_any ⟨#[]⟩ (by decide) W (unhide HKB W hW) _ rfl W (Below.refl _ _))
  have HLF := hide (fun W (hW : Below h w W) => leaf_any a (by omega) W (unhide HKB W hW))
  have HR3 := hide (show ∀ W, Below h w W → Calls Tryd.prog 13 #[.slice (some ⟨W.heap.size, 0, none⟩) 3 3] (W.alloc (.cells #[.string a, .string b, .string c] 9)) fun e w' => e = .returned (.string (ndB (ndB (lf a) (lf b)) (lf c))) ∧ Hid (Below h w w') from fun W hW => by
    have hn := (Blk.new W 9 #[.string a, .string b, .string c])
    have hb1 : Below h w (W.alloc (.cells #[.string a, .string b, .string c] 9)) := hW.alloc (by have := hW.size; omega) _
    have hsz : (W.alloc (.cells #[.string a, .string b, .string c] 9)).heap.size = W.heap.size + 1 := by simp
    have := root_any [a, b, c] 3 rfl (W.alloc (.cells #[.string a, .string b, .string c] 9)) (W.heap.size + 1) 3 (some ⟨W.heap.size, 0, none⟩) (fun j hj => ⟨W.heap.size, 0, rfl, by omega, by
      rw [Nat.zero_add, hn.cell j]
      match j, hj with
      | 0, _ => rfl
      | 1, _ => rfl
      | 2, _ => rfl⟩) (by omega) (unhide HKB _ hb1) (fun j hj => by
      match j, hj with
      | 0, _ => exact Nat.le_trans ha (by decide)
      | 1, _ => exact Nat.le_trans hb (by decide)
      | 2, _ => exact Nat.le_trans hc (by decide)) (by decide) (by decide) (by decide)
    rw [rt_3'] at this
    exact this.mono (fun e z ⟨q1, q2⟩ => ⟨q1, hb1.trans (q2.mono (by have := hW.size; omega))⟩))
  have HR2 := hide (show ∀ W, Below h w W → Calls Tryd.prog 13 #[.slice (some ⟨W.heap.size, 0, none⟩) 2 2] (W.alloc (.cells #[.string a, .string b] 9)) fun e w' => e = .returned (.string (ndB (lf a) (lf b))) ∧ Hid (Below h w w') from fun W hW => by
    have hn := (Blk.new W 9 #[.string a, .string b])
    have hb1 : Below h w (W.alloc (.cells #[.string a, .string b] 9)) := hW.alloc (by have := hW.size; omega) _
    have hsz : (W.alloc (.cells #[.string a, .string b] 9)).heap.size = W.heap.size + 1 := by simp
    have := root_any [a, b] 2 rfl (W.alloc (.cells #[.string a, .string b] 9)) (W.heap.size + 1) 2 (some ⟨W.heap.size, 0, none⟩) (fun j hj => ⟨W.heap.size, 0, rfl, by omega, by
      rw [Nat.zero_add, hn.cell j]
      match j, hj with
      | 0, _ => rfl
      | 1, _ => rfl⟩) (by omega) (unhide HKB _ hb1) (fun j hj => by
      match j, hj with
      | 0, _ => exact Nat.le_trans ha (by decide)
      | 1, _ => exact Nat.le_trans hb (by decide)) (by decide) (by decide) (by decide)
    rw [rt_2'] at this
    exact this.mono (fun e z ⟨q1, q2⟩ => ⟨q1, hb1.trans (q2.mono (by have := hW.size; omega))⟩))
  have HR1 := hide (show ∀ W, Below h w W → Calls Tryd.prog 13 #[.slice (some ⟨W.heap.size, 0, none⟩) 1 1] (W.alloc (.cells #[.string c] 9)) fun e w' => e = .returned (.string (lf c)) ∧ Hid (Below h w w') from fun W hW => by
    have hn := (Blk.new W 9 #[.string c])
    have hb1 : Below h w (W.alloc (.cells #[.string c] 9)) := hW.alloc (by have := hW.size; omega) _
    have hsz : (W.alloc (.cells #[.string c] 9)).heap.size = W.heap.size + 1 := by simp
    have := root_any [c] 1 rfl (W.alloc (.cells #[.string c] 9)) (W.heap.size + 1) 1 (some ⟨W.heap.size, 0, none⟩) (fun j hj => ⟨W.heap.size, 0, rfl, by omega, by
      rw [Nat.zero_add, hn.cell j]
      match j, hj with
      | 0, _ => rfl⟩) (by omega) (unhide HKB _ hb1) (fun j hj => by
      match j, hj with
      | 0, _ => exact Nat.le_trans hc (by decide)) (by decide) (by decide) (by decide)
    rw [rt_1'] at this
    exact this.mono (fun e z ⟨q1, q2⟩ => ⟨q1, hb1.trans (q2.mono (by have := hW.size; omega))⟩))
  have HRN := hide (show ∀ W, Below h w W → Calls Tryd.prog 13 #[.slice none 0 0] W fun e w' => e = .returned (.string (dg ⟨#[]⟩)) ∧ Below W.heap.size W w' from fun W hW => by
    have := root_any [] 0 rfl W 0 0 none (SB.nil _ _ _) (Nat.zero_le _) (unhide HKB W hW) (fun j hj => absurd hj (by simp)) (by decide) (by decide) (by decide)
    rw [rt_nil] at this
    exact this)
  have z0 : (⟨#[0]⟩ : ByteArray).size = 1 := rfl
  have z1 : (⟨#[1]⟩ : ByteArray).size = 1 := rfl
  obtain ⟨ua, hua⟩ : ∃ u, (⟨#[0]⟩ : ByteArray) ++ a = u := ⟨_, rfl⟩
  obtain ⟨ub, hub⟩ : ∃ u, (⟨#[0]⟩ : ByteArray) ++ b = u := ⟨_, rfl⟩
  obtain ⟨uc, huc⟩ : ∃ u, (⟨#[0]⟩ : ByteArray) ++ c = u := ⟨_, rfl⟩
  rw [show mk0 ++ a = ua from hua] at HSa
  rw [show mk0 ++ b = ub from hub] at HSb
  rw [show mk0 ++ c = uc from huc] at HSc
  have za := lf_size a
  have zb := lf_size b
  have zc := lf_size c
  have zn := ndB_size (lf a) (lf b)
  generalize dg ⟨#[]⟩ = none0 at *
  generalize ndB (ndB (lf a) (lf b)) (lf c) = tp at *
  generalize ndB (lf a) (lf b) = nn at *
  generalize lf a = X at *
  generalize lf b = Y at *
  generalize lf c = ZZ at *
  obtain ⟨v1, hv1⟩ : ∃ u, (⟨#[1]⟩ : ByteArray) ++ X = u := ⟨_, rfl⟩
  obtain ⟨v2, hv2⟩ : ∃ u, v1 ++ Y = u := ⟨_, rfl⟩
  obtain ⟨v3, hv3⟩ : ∃ u, (⟨#[1]⟩ : ByteArray) ++ nn = u := ⟨_, rfl⟩
  obtain ⟨v4, hv4⟩ : ∃ u, v3 ++ ZZ = u := ⟨_, rfl⟩
  rw [show mk1 ++ X = v1 from hv1, hv2] at HSn
  rw [show mk1 ++ nn = v3 from hv3, hv4] at HSt
  have zv1 : v1.size = 33 := by rw [← hv1, ByteArray.size_append, za]; rfl
  have zv3 : v3.size = 33 := by rw [← hv3, ByteArray.size_append, zn]; rfl
  have HB0 := hide (show Below h w w from Below.refl _ _)
  rw [hh]
  clear hK
  go_enter Tryd.func3, Tryd.ntmps3
  go_wp2_with fail
  refine (unhide HAW _ (unhide HB0)).mono ?_
  rintro e y1 ⟨rfl, hb⟩
  have HB1 := hide (show Below h w y1 from (unhide HB0).trans (hb.mono (by have := (unhide HB0).size; omega)))
  clear hb HB0
  go_wp2_with fail
  refine (unhide HSa _ (unhide HB1)).mono ?_
  rintro e y2 ⟨rfl, hb⟩
  have HB2 := hide (show Below h w y2 from (unhide HB1).trans (hb.mono (by have := (unhide HB1).size; omega)))
  clear hb HB1
  go_wp2_with fail
  refine (unhide HSb _ (unhide HB2)).mono ?_
  rintro e y3 ⟨rfl, hb⟩
  have HB3 := hide (show Below h w y3 from (unhide HB2).trans (hb.mono (by have := (unhide HB2).size; omega)))
  clear hb HB2
  go_wp2_with fail
  refine (unhide HSc _ (unhide HB3)).mono ?_
  rintro e y4 ⟨rfl, hb⟩
  have HB4 := hide (show Below h w y4 from (unhide HB3).trans (hb.mono (by have := (unhide HB3).size; omega)))
  clear hb HB3
  go_wp2_with fail
  refine (unhide HND _ (unhide HB4)).mono ?_
  rintro e y5 ⟨rfl, hb⟩
  have HB5 := hide (show Below h w y5 from (unhide HB4).trans (hb.mono (by have := (unhide HB4).size; omega)))
  clear hb HB4
  go_wp2_with fail
  refine (unhide HSn _ (unhide HB5)).mono ?_
  rintro e y6 ⟨rfl, hb⟩
  have HB6 := hide (show Below h w y6 from (unhide HB5).trans (hb.mono (by have := (unhide HB5).size; omega)))
  clear hb HB5
  go_wp2_with fail
  refine (unhide HSt _ (unhide HB6)).mono ?_
  rintro e y7 ⟨rfl, hb⟩
  have HB7 := hide (show Below h w y7 from (unhide HB6).trans (hb.mono (by have := (unhide HB6).size; omega)))
  clear hb HB6
  go_wp2_with fail
  refine (unhide HS0 _ (unhide HB7)).mono ?_
  rintro e y8 ⟨rfl, hb⟩
  have HB8 := hide (show Below h w y8 from (unhide HB7).trans (hb.mono (by have := (unhide HB7).size; omega)))
  clear hb HB7
  go_wp2_with fail
  refine (unhide HLF _ (unhide HB8)).mono ?_
  rintro e y9 ⟨rfl, hb⟩
  have HB9 := hide (show Below h w y9 from (unhide HB8).trans (hb.mono (by have := (unhide HB8).size; omega)))
  clear hb HB8
  go_wp2_with fail
  refine (unhide HR3 _ (unhide HB9)).mono ?_
  rintro e y10 ⟨rfl, HB10⟩
  clear HB9
  go_wp2_with fail
  refine (unhide HR2 _ (unhide HB10)).mono ?_
  rintro e y11 ⟨rfl, HB11⟩
  clear HB10
  go_wp2_with fail
  refine (unhide HRN _ (unhide HB11)).mono ?_
  rintro e y12 ⟨rfl, hb⟩
  have HB12 := hide (show Below h w y12 from (unhide HB11).trans (hb.mono (by have := (unhide HB11).size; omega)))
  clear hb HB11
  go_wp2_with fail
  refine (unhide HR1 _ (unhide HB12)).mono ?_
  rintro e y13 ⟨rfl, HB13⟩
  clear HB12
  go_wp2
  go_ret
  exact ⟨rfl, unhide HB13⟩
end Go.Proofs.YtkileaocgecckaaDoor
