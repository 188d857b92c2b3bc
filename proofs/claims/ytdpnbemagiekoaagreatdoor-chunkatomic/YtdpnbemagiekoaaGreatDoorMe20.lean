import Derived.Laws.BytesArg
import Derived.Test.YtdpnbemagiekoaaGreatDoorMe19
import Derived.StillTailTactics
import Derived.Deep.RegionHeld3
set_option maxHeartbeats 2000000
set_option maxRecDepth 100000
namespace Go.Proofs.YtdpnbemagiekoaaGreatDoor
section
open Go.RowKit
theorem zNf (s : H8) (i k : Nat) (hi : i < 8) (hk : k < 4) : (zAM s).getD (4 * i + k) 0 = s.vals.getD i 0 / 2 ^ (24 - 8 * k) % 256 := by
 rcases (show i = 0 ∨ i = 1 ∨ i = 2 ∨ i = 3 ∨ i = 4 ∨ i = 5 ∨ i = 6 ∨ i = 7 by omega) with rfl | rfl | rfl | rfl | rfl | rfl | rfl | rfl <;>
  rcases (show k = 0 ∨ k = 1 ∨ k = 2 ∨ k = 3 by omega) with rfl | rfl | rfl | rfl <;> simp [zAM, out4, H8.vals]
theorem zDO (s : H8) : (zAM s).length = 32 := by simp [zAM, out4]
theorem zHC (s : H8) (t : Nat) (ht : t < 8) (w : World) : (Instr.index 261 (Value.agg (s.vals.map (Value.int .u32)).toArray) (Value.int .i64 t)).run Tryz.prog w = .ok (.int .u32 (s.vals.getD t 0)) w := by
 rcases (show t = 0 ∨ t = 1 ∨ t = 2 ∨ t = 3 ∨ t = 4 ∨ t = 5 ∨ t = 6 ∨ t = 7 by omega) with rfl | rfl | rfl | rfl | rfl | rfl | rfl | rfl <;> kernel_rfl
def DigInv (w : World) (l : List Int) (wr : World) : Prop := Arr wr (w.heap.size + 1) 0 .u8 l /\ Below w.heap.size w wr
theorem DigInv.put {w : World} {l l' : List Int} {wr : World} (h : DigInv w l wr) (t : Nat) (ht : t < l.length) (v : Int) (e : l.set t v = l') : DigInv w l' (wr.setCell ⟨w.heap.size + 1, t, none⟩ (.int .u8 v)) := by
 subst e
 exact ⟨h.1.set0 t ht v, h.2.setCell (by simp) _⟩
theorem zI7 (s : H8) (w : World) :
  Calls Tryz.prog 199 #[.agg (s.vals.map (Value.int .u32)).toArray] w fun e w' => e = .returned (.string (strOfNums (zAM s))) /\ Below w.heap.size w w' := by
 have HR := uB (fun C => by
  have := ((zA8 w .u32 s.vals 261 _ rfl).alloc (by simp) C).range
  simpa using this : ∀ C, ((w.alloc (Obj.cells (s.vals.map (Value.int .u32)).toArray 261)).alloc C).rangeAt w.heap.size 0 (s.vals.map (Value.int .u32)))
 have HS := uB (⟨by simpa using zA8 (w.alloc (Obj.cells (s.vals.map (Value.int .u32)).toArray 261)) .u8 (List.replicate 32 0) 98 _ rfl, ((Below.refl _ _).alloc (Nat.le_refl _) _).alloc (by simp) _⟩ :
  DigInv w (List.replicate 32 0) ((w.alloc (Obj.cells (s.vals.map (Value.int .u32)).toArray 261)).alloc (Obj.cells ((List.replicate 32 (0 : Int)).map (Value.int .u8)).toArray 98)))
 go_enter Tryz.func199, Tryz.ntmps199
 go_wp2_with (refine wpList_load_mid rfl 261 (.tmp 1) rfl w.heap.size 0 rfl _ _ (uA HR _) Tryz.underlying261 rfl (by rw [zBg]; simp [H8.vals]) ?_)
 clear HR
 go_loopw [8] (fun i wr => ∃ t : Nat, t <= 8 /\ i = .int .i64 t /\ DigInv w ((zAM s).take (4 * t) ++ (List.replicate 32 0).drop (4 * t)) wr) (fun i _ => 8 - (intOf i).toNat)
 case atStart => exact ⟨0, by omega, rfl, uA HS⟩
 case round =>
  clear HS
  obtain ⟨t, ht, rfl, hI⟩ := hrel
  by_cases htl : t < 8
  ·have HI := uB hI
   clear hI
   have hv := zHC s t htl
   obtain ⟨v, hvv⟩ : ∃ v, v = s.vals.getD t 0 := ⟨_, rfl⟩
   rw [<- hvv] at hv
   have HV := uB hvv
   clear hvv
   obtain ⟨wo, rfl⟩ : ∃ wo : World, wo = wr := ⟨_, rfl⟩
   go_wp2
   go_loopw [12] (fun i wr => ∃ k : Nat, k <= 4 /\ i = .int .i64 k /\ DigInv w ((zAM s).take (4 * t + k) ++ (List.replicate 32 0).drop (4 * t + k)) wr) (fun i _ => 4 - (intOf i).toNat)
   case atStart => exact ⟨0, by omega, rfl, uA HI⟩
   case round =>
    clear hv HI
    obtain ⟨k, hk, rfl, hI⟩ := hrel
    by_cases hkl : k < 4
    ·have hlo := zDO s
     have hll : ((zAM s).take (4 * t + k) ++ (List.replicate 32 (0 : Int)).drop (4 * t + k)).length = 32 := by simp [hlo]; omega
     have c1 := hI.1.get0 (4 * t + k) (by omega)
     have f1 := hI.1.free0 (4 * t + k) (by omega)
     obtain ⟨z, hz⟩ : ∃ z, z = ((zAM s).take (4 * t + k) ++ (List.replicate 32 (0 : Int)).drop (4 * t + k)).getD (4 * t + k) 0 := ⟨_, rfl⟩
     rw [<- hz] at c1
     have HE := uB (take_set (zAM s) (List.replicate 32 0) (4 * t + k) _ (by omega) (by simp; omega) rfl)
     rw [zNf s t k htl hkl, <- uA HV] at HE
     have HI2 := uB hI
     have HL := uB hll
     have HP := uB (show ((24 : Int) - 8 * (k : Int)).toNat = 24 - 8 * k by omega)
     clear hz hI hll hlo
     go_wp2
     go_roundw
     case rel => exact ⟨k + 1, by omega, by go_num, (uA HI2).put (4 * t + k) (by rw [uA HL]; omega) _ (uA HE)⟩
     case measure => simp [intOf]; omega
    ·have e4 : k = 4 := by omega
     rw [e4, show 4 * t + 4 = 4 * (t + 1) by omega] at hI
     have HI2 := uB hI
     clear hI e4
     go_wp2
     go_roundw
     case rel => exact ⟨t + 1, by omega, by go_num, uA HI2⟩
     case measure => simp [intOf]; omega
  ·have e8 : t = 8 := by omega
   rw [e8] at hI
   have hfin : (zAM s).take (4 * 8) ++ (List.replicate 32 (0 : Int)).drop (4 * 8) = zAM s := by
    rw [List.take_of_length_le (by rw [zDO]; omega)]; simp
   rw [hfin] at hI
   have hcv := run_convert_bytes_arg (P := Tryz.prog) wr 119 5 Tryz.underlying119 Tryz.underlying5 (w.heap.size + 1) 0 32 32 (zAM s) (zDO s) (fun i hi => hI.1.get i (by rw [zDO]; exact hi)) 9 Tryz.underlying9
   have HB := uB hI.2
   clear hI e8 hfin
   go_wp2
   go_ret
   exact ⟨rfl, uA HB⟩
end
section
open Go.RowKit
theorem zCl (s : H8) (l m : List Int) : ∀ k, 64 * k <= l.length -> zBN s (l ++ m) k = zBN s l k
 | 0, _ => rfl
 | k + 1, h => by
  rw [zBN, zBN, zCl s l m k (by omega)]
  congr 1
  rw [List.drop_append_of_le_length (by omega), List.take_append_of_le_length (by simp; omega)]
def Hs (w : World) (b : Nat) (l : List Int) : Prop :=
 ∃ q : List Int, q.length = 64 /\ Bytes q /\ HAt w b (zBN zBx l (l.length / 64)) q l.length /\ q.take (l.length % 64) = l.drop (64 * (l.length / 64))
theorem KTab.touch {w w' : World} {b : Nat} (h : KTab w) (ht : Touch b w w') (hb : 4 < b) : KTab w' := h.below ht.1 hb
theorem zMI : ∀ w, (zeroValue 264).run Tryz.prog w = .ok (.agg #[.int .u32 0, .int .u32 0, .int .u32 0, .int .u32 0, .int .u32 0, .int .u32 0, .int .u32 0, .int .u32 0, .int .u8 0, .int .u8 0, .int .u8 0, .int .u8 0, .int .u8 0, .int .u8 0, .int .u8 0, .int .u8 0, .int .u8 0, .int .u8 0, .int .u8 0, .int .u8 0, .int .u8 0, .int .u8 0, .int .u8 0, .int .u8 0, .int .u8 0, .int .u8 0, .int .u8 0, .int .u8 0, .int .u8 0, .int .u8 0, .int .u8 0, .int .u8 0, .int .u8 0, .int .u8 0, .int .u8 0, .int .u8 0, .int .u8 0, .int .u8 0, .int .u8 0, .int .u8 0, .int .u8 0, .int .u8 0, .int .u8 0, .int .u8 0, .int .u8 0, .int .u8 0, .int .u8 0, .int .u8 0, .int .u8 0, .int .u8 0, .int .u8 0, .int .u8 0, .int .u8 0, .int .u8 0, .int .u8 0, .int .u8 0, .int .u8 0, .int .u8 0, .int .u8 0, .int .u8 0, .int .u8 0, .int .u8 0, .int .u8 0, .int .u8 0, .int .u8 0, .int .u8 0, .int .u8 0, .int .u8 0, .int .u8 0, .int .u8 0, .int .u8 0, .int .u8 0, .int .i64 0]) w := (zero_of_info (P := Tryz.prog) (t := 264) (v := .agg #[.int .u32 0, .int .u32 0, .int .u32 0, .int .u32 0, .int .u32 0, .int .u32 0, .int .u32 0, .int .u32 0, .int .u8 0, .int .u8 0, .int .u8 0, .int .u8 0, .int .u8 0, .int .u8 0, .int .u8 0, .int .u8 0, .int .u8 0, .int .u8 0, .int .u8 0, .int .u8 0, .int .u8 0, .int .u8 0, .int .u8 0, .int .u8 0, .int .u8 0, .int .u8 0, .int .u8 0, .int .u8 0, .int .u8 0, .int .u8 0, .int .u8 0, .int .u8 0, .int .u8 0, .int .u8 0, .int .u8 0, .int .u8 0, .int .u8 0, .int .u8 0, .int .u8 0, .int .u8 0, .int .u8 0, .int .u8 0, .int .u8 0, .int .u8 0, .int .u8 0, .int .u8 0, .int .u8 0, .int .u8 0, .int .u8 0, .int .u8 0, .int .u8 0, .int .u8 0, .int .u8 0, .int .u8 0, .int .u8 0, .int .u8 0, .int .u8 0, .int .u8 0, .int .u8 0, .int .u8 0, .int .u8 0, .int .u8 0, .int .u8 0, .int .u8 0, .int .u8 0, .int .u8 0, .int .u8 0, .int .u8 0, .int .u8 0, .int .u8 0, .int .u8 0, .int .u8 0, .int .i64 0]) (n := 73) (by kernel_rfl)).1
theorem zJG (w : World) :
  Calls Tryz.prog 135 #[] w fun e w' => e = .returned (.pointer (some ⟨w.heap.size, 0, none⟩)) /\ Hs w' w.heap.size [] /\ Below w.heap.size w w' /\ w'.heap.size = w.heap.size + 1 := by
 have hs : Hs (w.alloc (Obj.cells (zA1 zBx (List.replicate 64 0) 0).toArray 264)) w.heap.size [] :=
  ⟨List.replicate 64 0, by simp, zCQ _, zHD w zBx (List.replicate 64 0) 0 (by simp) 264, by simp⟩
 have HS := uB hs
 clear hs
 have hz := zMI
 go_enter Tryz.func135, Tryz.ntmps135
 go_wp2
 go_ret
 exact ⟨rfl, uA HS, (Below.refl _ _).alloc (Nat.le_refl _) _, by simp⟩
end
section
open Go.RowKit
theorem zKd (l : List Int) : zH9 l = l ++ ([128] ++ List.replicate ((119 - l.length % 64) % 64) 0 ++ lenB l.length) := by
 simp [zH9, lenB]
theorem zOG (l : List Int) : sha l = zAM (fin (zBN zBx l (l.length / 64)) (l.drop (64 * (l.length / 64))) l.length) := by
 unfold sha
 congr 1
 obtain ⟨n, hn⟩ : ∃ n, n = l.length := ⟨_, rfl⟩
 obtain ⟨r, hr⟩ : ∃ r, r = l.drop (64 * (n / 64)) := ⟨_, rfl⟩
 have hrl : r.length = n % 64 := by rw [hr, List.length_drop, <- hn]; omega
 rw [zKd, <- hn, <- hr]
 by_cases h56 : 56 < n % 64 + 1
 ·have e1 : (119 - n % 64) % 64 = 119 - n % 64 := by omega
  have hlen : (l ++ ([128] ++ List.replicate ((119 - n % 64) % 64) 0 ++ lenB n)).length / 64 = n / 64 + 2 := by
   simp only [List.length_append, List.length_cons, List.length_nil, List.length_replicate, zA7, e1, <- hn]; omega
  have hm : ([128] ++ List.replicate ((119 - n % 64) % 64) (0 : Int) ++ lenB n).length = 128 - n % 64 := by
   simp only [List.length_append, List.length_cons, List.length_nil, List.length_replicate, zA7, e1]; omega
  have hsplit : [128] ++ List.replicate ((119 - n % 64) % 64) (0 : Int) ++ lenB n = ([128] ++ List.replicate (63 - n % 64) 0) ++ (List.replicate 56 0 ++ lenB n) := by
   rw [e1, show 119 - n % 64 = 63 - n % 64 + 56 by omega, <- List.replicate_append_replicate]
   simp
  have hx : (r ++ ([128] ++ List.replicate (63 - n % 64) (0 : Int))).length = 64 := by
   simp only [List.length_append, List.length_cons, List.length_nil, List.length_replicate, hrl]; omega
  rw [hlen, fin, if_pos (by omega), zBN, zBN, zCl _ _ _ _ (by omega)]
  have d1 : (l ++ ([128] ++ List.replicate ((119 - n % 64) % 64) 0 ++ lenB n)).drop (64 * (n / 64)) = (r ++ ([128] ++ List.replicate (63 - n % 64) (0 : Int))) ++ (List.replicate 56 0 ++ lenB n) := by
   rw [List.drop_append_of_le_length (by omega), <- hr, hsplit, List.append_assoc r]
  have d2 : (l ++ ([128] ++ List.replicate ((119 - n % 64) % 64) 0 ++ lenB n)).drop (64 * (n / 64 + 1)) = List.replicate 56 0 ++ lenB n := by
   rw [show 64 * (n / 64 + 1) = 64 * (n / 64) + 64 by omega, <- List.drop_drop, d1, List.drop_append_of_le_length (by omega), List.drop_of_length_le (by omega), List.nil_append]
  rw [d1, d2, List.take_append_of_le_length (by omega), List.take_of_length_le (by omega), List.take_of_length_le (by simp [zA7]), hrl, List.append_assoc r]
 ·have e1 : (119 - n % 64) % 64 = 55 - n % 64 := by omega
  have hlen : (l ++ ([128] ++ List.replicate ((119 - n % 64) % 64) 0 ++ lenB n)).length / 64 = n / 64 + 1 := by
   simp only [List.length_append, List.length_cons, List.length_nil, List.length_replicate, zA7, e1, <- hn]; omega
  rw [hlen, fin, if_neg (by omega), zBN, zCl _ _ _ _ (by omega), List.drop_append_of_le_length (by omega), <- hr, e1, hrl]
  rw [List.take_of_length_le (by simp only [List.length_append, List.length_cons, List.length_nil, List.length_replicate, zA7, hrl]; omega)]
  simp
theorem zNw (l : List Int) : (sha l).length = 32 := zDO _
theorem HAt.range {w : World} {b : Nat} {s : H8} {q : List Int} {n : Nat} (h : HAt w b s q n) (hq : q.length = 64) : w.rangeAt b 0 (zA1 s q n) := by
 intro j v hv
 have h8 : (s.vals.map (Value.int .u32)).length = 8 := by simp [H8.vals]
 have h64 : (q.map (Value.int .u8)).length = 64 := by simp [hq]
 unfold zA1 at hv
 rw [List.append_assoc] at hv
 by_cases h1 : j < 8
 ·rw [List.getElem?_append_left (by omega)] at hv
  exact h.1.range j v hv
 ·rw [List.getElem?_append_right (by omega), h8] at hv
  by_cases h2 : j < 72
  ·rw [List.getElem?_append_left (by omega)] at hv
   have := h.2.1.range (j - 8) v hv
   rwa [show 0 + j = 8 + (j - 8) by omega]
  ·rw [List.getElem?_append_right (by omega), h64] at hv
   obtain ⟨hj, e⟩ := List.getElem?_eq_some_iff.1 hv
   simp at hj
   have hj72 : j = 72 := by omega
   subst hj72
   simp at hv
   rw [<- hv]
   simpa using zIk h
end
section
open Go.RowKit
theorem zLZ (q l : List Int) (i j : Nat) (hi : i + l.length <= q.length) : (q.take i ++ l ++ q.drop (i + l.length)).getD j 0 = if j < i then q.getD j 0 else if j < i + l.length then l.getD (j - i) 0 else q.getD j 0 := by
 have hm : min i q.length = i := by omega
 simp only [List.getD_eq_getElem?_getD, List.getElem?_append, List.length_append, List.length_take, hm]
 by_cases h1 : j < i
 ·rw [if_pos (by omega), if_pos h1, if_pos h1, List.getElem?_take, if_pos h1]
 ·by_cases h2 : j < i + l.length
  ·rw [if_pos h2, if_neg h1, if_neg h1, if_pos h2]
  ·rw [if_neg h2, if_neg h1, if_neg h2, List.getElem?_drop]
   congr 2
   omega
theorem HAt.putMid {w : World} {b : Nat} {s : H8} {q : List Int} {n : Nat} (h : HAt w b s q n) (hq : q.length = 64) (i : Nat) (l' : List Int) (hi : i + l'.length <= 64) :
  HAt (w.setCells b (8 + i) (l'.map (Value.int .u8))) b s (q.take i ++ l' ++ q.drop (i + l'.length)) n := by
 refine ⟨h.1.setCells_apart _ _ _ (.inr (.inl (by simp [H8.vals]))), ?_, h.2.2.setCells_apart _ _ _ (.inr (.inr (by simp; omega)))⟩
 intro j hj
 have hjl : j < q.length := by simp at hj; omega
 refine ⟨?_, by rw [World.frozen?_setCells]; exact (h.2.1 j hjl).2⟩
 rw [zLZ _ _ _ _ (by omega)]
 by_cases h1 : j < i
 ·rw [World.cell?_setCells_out b _ (8 + i) w ⟨b, 8 + j, none⟩ (by intro _ _; left; simp; omega), (h.2.1 j hjl).1, if_pos h1]
 ·by_cases h2 : j < i + l'.length
  ·obtain ⟨m, rfl⟩ : ∃ m, j = i + m := ⟨j - i, by omega⟩
   have hr := World.rangeAt_setCells_same w b (8 + i) (l'.map (Value.int .u8)) (by
    intro x hx
    have hx' : i + x < q.length := by (simp at hx; omega)
    rw [Nat.add_assoc]; exact h.2.1.there (i + x) hx')
   have hm : m < l'.length := by omega
   have := hr m (.int .u8 (l'.getD m 0)) (by simp [hm])
   rw [Nat.add_assoc] at this
   rw [this, if_neg h1, if_pos h2, Nat.add_sub_cancel_left]
  ·rw [World.cell?_setCells_out b _ (8 + i) w ⟨b, 8 + j, none⟩ (by intro _ _; right; simp; omega), (h.2.1 j hjl).1, if_neg h1, if_neg h2]
theorem HAt.putCount {w : World} {b : Nat} {s : H8} {q : List Int} {n : Nat} (h : HAt w b s q n) (hq : q.length = 64) (n' : Nat) : HAt (w.setCell ⟨b, 72, none⟩ (.int .i64 (n' : Int))) b s q n' := by
 refine ⟨h.1.other _ _ (.inr (.inr (by simp [H8.vals]))), h.2.1.other _ _ (.inr (.inr (by simp; omega))), ?_⟩
 have := h.2.2.set 0 (by simp) (n' : Int)
 simpa using this
theorem zN6 {l' : List Int} {t' : ByteArray} {q : List Int} {m n : Nat} (hn : l'.length = n) (hm : ((nums t').take m).length = m) (hq : q.take (n % 64) = l'.drop (64 * (n / 64))) (hf : n % 64 + m = 64) (hq64 : q.length = 64) :
  zBN zBx (l' ++ (nums t').take m) ((n + m) / 64) = comp (zBN zBx l' (n / 64)) (q.take (n % 64) ++ (nums t').take m ++ q.drop (n % 64 + m)) /\ (n + m) % 64 = 0 /\ (l' ++ (nums t').take m).length = n + m := by
 have hl : (l' ++ (nums t').take m).length = n + m := by rw [List.length_append, hm, hn]
 have h1 : n = 64 * (n / 64) + n % 64 := by omega
 have h2 : (n + m) / 64 = n / 64 + 1 := by omega
 refine ⟨?_, by omega, hl⟩
 rw [h2, zBN, zCl zBx l' _ (n / 64) (by omega)]
 congr 1
 rw [List.drop_append_of_le_length (by omega), <- hq]
 have h3 : (q.take (n % 64)).length = n % 64 := by rw [hq, List.length_drop]; omega
 rw [List.take_of_length_le (by rw [List.length_append, h3, hm]; omega)]
 have h6 : q.drop (n % 64 + m) = [] := List.drop_of_length_le (by omega)
 rw [h6, List.append_nil]
theorem zJq {W : World} {b n m : Nat} {l'' q1 : List Int} {s2 : H8} (hA : HAt W b s2 q1 (n + m)) (hq : q1.length = 64) (hb : Bytes q1) (hc : zBN zBx l'' ((n + m) / 64) = s2) (h0 : (n + m) % 64 = 0) (hl : l''.length = n + m) : Hs W b l'' := by
 refine ⟨q1, hq, hb, by rw [hl, hc]; exact hA, ?_⟩
 rw [hl, h0, List.take_zero, List.drop_of_length_le (by omega)]
theorem zDo (t : ByteArray) (m : Nat) : nums (t.extract m t.size) = (nums t).drop m := by
 have h := zAf t
 unfold nums at *
 simp only [ByteArray.data_extract, Array.toList_extract, List.extract_eq_take_drop, List.map_take, List.map_drop]
 exact List.take_of_length_le (by rw [List.length_drop, h]; omega)
theorem zN8 {W : World} {b : Nat} {l' : List Int} {t' : ByteArray} {q : List Int} {m n : Nat} (hn : l'.length = n) (hm : ((nums t').take m).length = m) (hq : q.take (n % 64) = l'.drop (64 * (n / 64))) (hf : n % 64 + m < 64) (hq64 : q.length = 64)
  (hA : HAt W b (zBN zBx l' (n / 64)) (q.take (n % 64) ++ (nums t').take m ++ q.drop (n % 64 + m)) (n + m)) (hl1 : (q.take (n % 64) ++ (nums t').take m ++ q.drop (n % 64 + m)).length = 64) (hb : Bytes (q.take (n % 64) ++ (nums t').take m ++ q.drop (n % 64 + m))) : Hs W b (l' ++ (nums t').take m) := by
 have hl : (l' ++ (nums t').take m).length = n + m := by rw [List.length_append, hm, hn]
 have h2 : (n + m) / 64 = n / 64 := by omega
 have h5 : (n + m) % 64 = n % 64 + m := by omega
 have h3 : (q.take (n % 64)).length = n % 64 := by rw [List.length_take]; omega
 refine ⟨_, hl1, hb, by rw [hl, h2, zCl zBx l' _ (n / 64) (by omega)]; exact hA, ?_⟩
 rw [hl, h5, h2, List.take_append_of_le_length (by rw [List.length_append, h3, hm]; omega), List.take_of_length_le (by rw [List.length_append, h3, hm]; omega), hq, List.drop_append_of_le_length (by omega)]
theorem zG8 (w : World) (b : Nat) (l : List Int) (t : ByteArray) (h : Hs w b l) (hb0 : 4 < b) (hbs : b < w.heap.size) (hK : KTab w) (hn : l.length + t.size < 2305843009213693952) :
  Calls Tryz.prog 136 #[.pointer (some ⟨b, 0, none⟩), .string t] w fun e w' => e = .returned (.tuple #[]) /\ Hs w' b (l ++ nums t) /\ Touch b w w' := by
 have H0 := uB h
 have HK := uB hK
 clear h hK
 go_enter Tryz.func136, Tryz.ntmps136
 go_wp2
 go_loopw [1] (fun v wr => ∃ t' : ByteArray, v = .string t' /\ ∃ l', Hs wr b l' /\ l' ++ nums t' = l ++ nums t /\ Touch b w wr) (fun v _ => match v with | .string t' => t'.size | _ => 0)
 case atStart => exact ⟨t, rfl, l, uA H0, rfl, Touch.refl _ _⟩
 case round =>
  obtain ⟨t', rfl, l', hI, hl, hT⟩ := hrel
  have hlen : l'.length + t'.size = l.length + t.size := by
   have := congrArg List.length hl
   simpa [zAf] using this
  by_cases h0 : 0 < t'.size
  ·obtain ⟨q, hq, hqb, hA, hqt⟩ := hI
   have hr : l'.length % 64 < 64 := Nat.mod_lt _ (by decide)
   obtain ⟨off, ln, e1, e2, hsl⟩ := zEQ b (l'.length % 64) (by omega)
   have hoff := e2 (by omega)
   obtain ⟨m, hm⟩ : ∃ m, m = min t'.size ln := ⟨_, rfl⟩
   have hlm : ((nums t').take m).length = m := by rw [List.length_take, zAf]; omega
   obtain ⟨W1, hcp, hA1, hT1⟩ : ∃ W1, (∀ ty, (Builtin.copy_ #[119, 9] ty #[.slice (some ⟨b, off, none⟩) ln ln, .string t']).run Tryz.prog wr = .ok (.int .i64 m) W1) /\
     HAt W1 b (zBN zBx l' (l'.length / 64)) (q.take (l'.length % 64) ++ (nums t').take m ++ q.drop (l'.length % 64 + m)) l'.length /\ Touch b w W1 := by
    refine ⟨_, fun ty => zD4 wr b off ln ln m t' hm (by rw [hoff]; intro j hj; rw [Nat.add_assoc]; exact hA.2.1.there (l'.length % 64 + j) (by omega)) ty, ?_, hT.setCells _ _⟩
    have := hA.putMid hq (l'.length % 64) ((nums t').take m) (by omega)
    rw [hlm] at this
    rw [hoff]; exact this
   have hsl' : ∀ W : World, (Instr.sliceAt 262 (.pointer (some ⟨b, 8, none⟩)) (some (.int .i64 ((l'.length : Int) % 64))) none none).run Tryz.prog W = .ok (.slice (some ⟨b, off, none⟩) ln ln) W := fun W => by simpa using hsl W
   have c72 := zIk hA
   have c72' := zIk hA1
   have f72 : W1.frozen? ⟨b, 72, none⟩ = false := by simpa using hA1.2.2.free 0 (by simp)
   have hmt : m <= t'.size := by omega
   have hm64 : l'.length % 64 + m <= 64 := by omega
   have hm0 : 0 < m := by omega
   have HA1 := uB hA1
   have HT1 := uB hT1
   have HL := uB hl
   have HM := uB hm
   have HLM := uB hlm
   have HQT := uB hqt
   have HQB := uB hqb
   clear hA hA1 hT1 hl hm hlm hsl e1 e2 hoff H0 hqt hqb hT
   have hlt : l'.length < 2305843009213693952 := by omega
   have hsz : t'.size < 2305843009213693952 := by omega
   generalize hnn : l'.length = n at *
   have HN := uB hnn
   clear hnn hlen
   by_cases hfull : n % 64 + m = 64
   ·go_wp2
    have hq1 : (q.take (n % 64) ++ (nums t').take m ++ q.drop (n % 64 + m)).length = 64 := by
     have := uA HLM
     simp only [List.length_append, this, List.length_take, List.length_drop]; omega
    have hA2 : HAt (W1.setCell ⟨b, 72, none⟩ (.int .i64 ((n : Int) + (m : Int)))) b (zBN zBx l' (n / 64)) (q.take (n % 64) ++ (nums t').take m ++ q.drop (n % 64 + m)) (n + m) := by
     have := (uA HA1).putCount hq1 (n + m)
     simpa using this
    have hT2 := (uA HT1).setCell 72 (.int .i64 ((n : Int) + (m : Int)))
    generalize W1.setCell ⟨b, 72, none⟩ (.int .i64 ((n : Int) + (m : Int))) = W2 at *
    have hby1 : Bytes (q.take (n % 64) ++ (nums t').take m ++ q.drop (n % 64 + m)) := zAR (zAR (zBs (uA HQB) _) (zBs (zAt _) _)) (zFw (uA HQB) _)
    have HX := uB (zN6 (l' := l') (t' := t') (q := q) (m := m) (n := n) (uA HN) (uA HLM) (uA HQT) hfull hq)
    clear HA1 HT1 HQB HQT c72 c72' f72 hcp hsl'
    generalize q.take (n % 64) ++ (nums t').take m ++ q.drop (n % 64 + m) = q1 at *
    generalize zBN zBx l' (n / 64) = s at *
    have hbs2 : b < W2.drew.heap.size := Nat.lt_of_lt_of_le hbs hT2.1.size
    have HK2 : Hid (KTab W2.drew) := (uA HK).touch hT2.drew hb0
    have hA2 : HAt W2.drew b s q1 (n + m) := hA2.drew
    have r8 := hA2.2.1.range
    have r45 := uB hA2.1.range
    have HA2 := uB hA2
    have HT2 := uB hT2
    have HBY := uB hby1
    clear hA2 hT2 hby1
    refine wp_region_held_drew (S := fun w' => w'.rangeAt b 8 (q1.map (Value.int .u8))) (by kernel_rfl) r8 ?_
    intro hS
    refine yL 0 (some 38) (Value.pointer (some ⟨b, 0, none⟩)) rfl (fun w hSw => by go_simp) hS ?_
    refine yL 1 (some 39) (Value.pointer (some ⟨b, 0, none⟩)) rfl (fun w hSw => by go_simp) hS ?_
    refine yL 2 (some 40) (Value.pointer (some ⟨b, 0, none⟩)) rfl (fun w hSw => by go_simp) hS ?_
    refine yL 3 (some 41) (Value.pointer (some ⟨b, 0, none⟩)) rfl (fun w hSw => by go_simp) hS ?_
    refine yL 5 (some 43) (Value.pointer (some ⟨b, 0, none⟩)) rfl (fun w hSw => by go_simp) hS ?_
    refine yL 6 (some 44) (Value.pointer (some ⟨b, 0, none⟩)) rfl (fun w hSw => by go_simp) hS ?_
    refine yL 7 (some 45) (Value.pointer (some ⟨b, 8, none⟩)) rfl (fun w hSw => by go_simp) hS ?_
    refine yK 8 (some 46) (.agg (q1.map (Value.int .u8)).toArray) rfl (yieldsIf_load_mid (by rfl) 262 (.tmp 45) rfl b 8 rfl _ _ (fun w h => h) Tryz.underlying262 rfl (by rw [zDN, List.length_map, hq1])) hS ?_
    refine wpAnyH_ready (rs := [4]) (by kernel_rfl) (by simp) ?_
    refine AllReadyH.cons rfl (fun K hK => ?_) AllReadyH.nil
    rw [if_pos (by rfl)]
    refine wp_load_mid 261 (.tmp 41) rfl b 0 rfl _ _ (uA r45) Tryz.underlying261 rfl (by rw [zBg]; simp [H8.vals]) ?_
    refine hK.out (Act.put _ (some 42) _) _ hS (fun hS => ?_)
    simp only [Act.put, List.setIfInBounds_toArray, List.set_cons_zero, List.set_cons_succ]
    clear hK K
    refine wpAnyH_ready (rs := [9]) (by kernel_rfl) (by simp) ?_
    refine AllReadyH.cons rfl (fun K hK => ?_) AllReadyH.nil
    simp only [List.getElem_toArray, List.getElem_cons_succ, List.getElem_cons_zero]
    go_simp
    refine (zDh s q1 hq1 (uA HBY) W2.drew (uA HK2)).mono ?_
    rintro e w3 ⟨rfl, hb3⟩
    have hA3 := (uA HA2).below hb3 hbs2
    have hT3 := (uA HT2).drew.trans (Touch.of_below hb3 (Nat.le_of_lt hbs2))
    have h3 := uB hA3.1.there
    have HA3 := uB (hA3.putWords (s' := comp s q1))
    have HT3 := uB (hT3.setCells ((comp s q1).vals.map (Value.int .u32)) 0)
    have HS3 := uB (World.rangeAt_setCells_apart hA3.2.1.range b 0 ((comp s q1).vals.map (Value.int .u32)) (.inr (.inr (by simp [H8.vals]))))
    refine hK.out _ _ hA3.2.1.range (fun hS => ?_)
    clear hK K hA3 hT3 HA2 HT2 hb3 r45 r8
    refine yL 10 (some 48) (Value.pointer (some ⟨b, 0, none⟩)) rfl (fun w hSw => by go_simp) hS ?_
    refine yL 11 (some 49) (Value.pointer (some ⟨b, 0, none⟩)) rfl (fun w hSw => by go_simp) hS ?_
    refine wpAnyH_ready (rs := [12]) (by kernel_rfl) (by simp) ?_
    refine AllReadyH.cons rfl (fun K hK => ?_) AllReadyH.nil
    rw [if_pos (by rfl)]
    refine wp_store_mid 261 (.tmp 49) (.tmp 47) rfl b 0 _ rfl rfl (by simpa [H8.vals] using uA h3) (by rw [zBg]; simp [H8.vals]) (zB2 _ _) ?_
    refine hK.out (Act.put _ none _) _ (uA HS3) (fun hS => ?_)
    clear hK K hS
    refine wpAnyH_done (by kernel_rfl) ?_ _
    simp only [Act.put]
    go_wp2
    go_roundw
    case rel => exact ⟨_, rfl, l' ++ (nums t').take m, zJq (uA HA3) hq1 (uA HBY) (uA HX).1 (uA HX).2.1 (uA HX).2.2, by rw [zDo, List.append_assoc, List.take_append_drop]; exact uA HL, uA HT3⟩
    case measure => simp; omega
   ·have hq1 : (q.take (n % 64) ++ (nums t').take m ++ q.drop (n % 64 + m)).length = 64 := by
     have := uA HLM
     simp only [List.length_append, this, List.length_take, List.length_drop]; omega
    have hA2 : HAt (W1.setCell ⟨b, 72, none⟩ (.int .i64 ((n : Int) + (m : Int)))) b (zBN zBx l' (n / 64)) (q.take (n % 64) ++ (nums t').take m ++ q.drop (n % 64 + m)) (n + m) := by
     have := (uA HA1).putCount hq1 (n + m)
     simpa using this
    have hT2 := (uA HT1).setCell 72 (.int .i64 ((n : Int) + (m : Int)))
    have hby1 : Bytes (q.take (n % 64) ++ (nums t').take m ++ q.drop (n % 64 + m)) := zAR (zAR (zBs (uA HQB) _) (zBs (zAt _) _)) (zFw (uA HQB) _)
    have HH := uB (zN8 (uA HN) (uA HLM) (uA HQT) (by omega) hq hA2 hq1 hby1)
    have HT2 := uB hT2
    clear hA2 hT2 hby1 HA1 HT1 HQB HQT
    go_wp2
    go_roundw
    case rel => exact ⟨_, rfl, l' ++ (nums t').take m, uA HH, by rw [zDo, List.append_assoc, List.take_append_drop]; exact uA HL, uA HT2⟩
    case measure => simp; omega
  ·have hz : t'.size = 0 := by omega
   have hnil : nums t' = [] := List.eq_nil_of_length_eq_zero (by rw [zAf, hz])
   rw [hnil, List.append_nil] at hl
   subst hl
   have HI := uB hI
   have HT := uB hT
   clear hI hT H0 hnil hlen
   go_wp2
   go_end0
   exact ⟨rfl, uA HI, uA HT⟩
end
section
open Go.RowKit
theorem zLP (w : World) (b : Nat) (l : List Int) (h : Hs w b l) (_hbs : b < w.heap.size) (hK : KTab w) (hn : l.length < 2305843009213693952) :
  Calls Tryz.prog 137 #[.pointer (some ⟨b, 0, none⟩)] w fun e w' => e = .returned (.string (strOfNums (sha l))) /\ Below w.heap.size w w' := by
 obtain ⟨q, hq, hqb, hA, hqt⟩ := h
 have hsha := zOG l
 rw [<- hqt] at hsha
 rw [hsha]
 clear hsha
 have HR := uB (hA.range hq)
 have HK := uB hK
 have HQ := uB hqb
 have hcl : (zA1 (zBN zBx l (l.length / 64)) q l.length).length = 73 := by simp [zA1, H8.vals, hq]
 clear hA hK hqb hqt
 generalize zBN zBx l (l.length / 64) = s at *
 generalize l.length = n at *
 go_enter Tryz.func137, Tryz.ntmps137
 go_wp2_with (first
  | (refine wpList_load_mid rfl 264 (.tmp 8) rfl b 0 rfl _ _ (uA HR) Tryz.underlying264 rfl (by rw [zOu, hcl]) ?_)
  | (go_at_call 200; refine (zHt s q n hq (uA HQ) hn _ (uA HK)).mono ?_; rintro e w1 ⟨rfl, hb1⟩)
  | (go_at_call 199; refine (zI7 _ _).mono ?_; rintro e w2 ⟨rfl, hb2⟩))
 go_ret
 exact ⟨rfl, hb1.trans (hb2.mono hb1.size)⟩
theorem zOf (t : ByteArray) (w : World) (hK : KTab w) (hn : t.size < 2305843009213693952) :
  Calls Tryz.prog 70 #[.string t] w fun e w' => e = .returned (.string (strOfNums (sha (nums t)))) /\ Below w.heap.size w w' := by
 have HK := uB hK
 clear hK
 go_enter Tryz.func70, Tryz.ntmps70
 go_wp2_with fail
 refine (zJG w).mono ?_
 rintro e w1 ⟨rfl, h1, hb1, hs1⟩
 have H1 := uB h1
 have HB1 := uB hb1
 have HS1 := uB hs1
 clear h1 hb1 hs1
 go_wp2_with fail
 refine (zG8 w1 w.heap.size [] t (uA H1) (uA HK).1 (by rw [uA HS1]; omega) ((uA HK).below (uA HB1) (uA HK).1) (by simpa using hn)).mono ?_
 rintro e w2 ⟨rfl, h2, ht2⟩
 have H2 := uB h2
 have HT2 := uB ht2
 clear h2 ht2
 go_wp2_with fail
 refine (zLP w2 w.heap.size (nums t) (by simpa using uA H2) (Nat.lt_of_lt_of_le (by rw [uA HS1]; omega) (uA HT2).1.size) (((uA HK).below (uA HB1) (uA HK).1).touch (uA HT2) (uA HK).1) (by rw [zAf]; exact hn)).mono ?_
 rintro e w3 ⟨rfl, hb3⟩
 go_wp2_with fail
 go_ret
 exact ⟨rfl, ((uA HB1).trans (uA HT2).1).trans (hb3.mono (Nat.le_trans (uA HB1).size (uA HT2).1.size))⟩
end
section
open Go.RowKit
theorem zCq (c : Int) (n : Nat) (hn : 0 < n) (hc : I64 c) (N : Int) (hN : N = (n : Int)) (w : World) :
  Calls Tryz.prog 21 #[.int .i64 c, .int .i64 N] w fun e w' => e = .returned (.int .i64 (zC3 c n : Int)) /\ w' = w := by
 subst hN
 obtain ⟨hc1, hc2⟩ := hc
 have hz : ((n : Int) == 0) = false := by simp; omega
 by_cases h : c < 0
 ·have e1 : (-(c + 1)).tmod (n : Int) = (-(c + 1)) % (n : Int) := Int.tmod_eq_emod_of_nonneg (by omega)
  have hp : 0 <= (-(c + 1)) % (n : Int) := Int.emod_nonneg _ (by omega)
  have hl : (-(c + 1)) % (n : Int) < (n : Int) := Int.emod_lt_of_pos _ (by omega)
  have HP := uB (show (zC3 c n : Int) = (-(c + 1)) % (n : Int) by rw [zC3, if_pos h]; omega)
  go_enter Tryz.func21, Tryz.ntmps21
  go_wp2
  go_ret
  exact ⟨by rw [uA HP]; rfl, rfl⟩
 ·have e1 : c.tmod (n : Int) = c % (n : Int) := Int.tmod_eq_emod_of_nonneg (by omega)
  have hp : 0 <= c % (n : Int) := Int.emod_nonneg _ (by omega)
  have hl : c % (n : Int) < (n : Int) := Int.emod_lt_of_pos _ (by omega)
  have HP := uB (show (zC3 c n : Int) = c % (n : Int) by rw [zC3, if_neg h]; omega)
  go_enter Tryz.func21, Tryz.ntmps21
  go_wp2
  go_ret
  exact ⟨by rw [uA HP]; rfl, rfl⟩
theorem zK8 (k n : Nat) (h : k < n) : zC3 (k : Int) n = k := by
 have h1 : ¬ (k : Int) < 0 := by omega
 rw [zC3, if_neg h1, Int.emod_eq_of_lt (by omega) (by omega)]
 omega
def bkK (v : Int) (k : Nat) : List Int := (List.range 256).map (fun j : Nat => if j < k then v else 0)
def bkB (v : Nat) : ByteArray := strOfNums (bkK (v : Int) 256)
theorem zCW (v : Int) (k : Nat) : (bkK v k).length = 256 := by simp [bkK]
theorem zDm (v : Nat) : (bkB v).size = 256 := by rw [bkB, strOfNums_size, zCW]
theorem zMX (v : Int) (k : Nat) : (bkK v k).set k v = bkK v (k + 1) := by
 apply List.ext_getElem
 ·simp [bkK]
 ·intro j h1 h2
  simp only [bkK, List.getElem_set, List.getElem_map, List.getElem_range]
  by_cases e : k = j
  ·subst e; simp
  ·rw [if_neg e]
   by_cases h : j < k
   ·rw [if_pos h, if_pos (by omega)]
   ·rw [if_neg h, if_neg (by omega)]
theorem zMz (v : Int) : bkK v 0 = List.replicate 256 0 := by
 refine List.eq_replicate_iff.2 ⟨zCW v 0, fun x hx => ?_⟩
 obtain ⟨j, _, rfl⟩ := List.mem_map.1 hx
 rw [if_neg (Nat.not_lt_zero j)]
theorem zDK (v : Nat) (hv : v < 21) (w : World) :
  Calls Tryz.prog 22 #[.int .i64 (v : Int)] w fun e w' => e = .returned (.string (bkB v)) /\ Below w.heap.size w w' := by
 have HPK := uB (fun W => zCq (v : Int) 23 (by omega) ⟨by omega, by omega⟩ 23 rfl W)
 rw [zK8 v 23 (by omega)] at HPK
 have hmk := zHZ 256 256 (by omega) (by omega) w
 have X0 := uB (show KeyInv w (bkK (v : Int) 0) (w.alloc (.cells ((List.replicate 256 (0 : Int)).map (Value.int .u8)).toArray 5)) from ⟨by rw [zMz]; exact zA8 w .u8 _ 5 _ rfl, (Below.refl _ _).alloc (Nat.le_refl _) _, by simp⟩)
 generalize hx : w.alloc (.cells ((List.replicate 256 (0 : Int)).map (Value.int .u8)).toArray 5) = x2 at *
 clear hx
 have h21 : ((v : Int) == 21) = false := by simp; omega
 have h22 : ((v : Int) == 22) = false := by simp; omega
 have hwv : IntKind.u8.wrap (v : Int) = (v : Int) := by
  have : (v : Int) % 256 = v := Int.emod_eq_of_lt (by omega) (by omega)
  simp [IntKind.wrap, IntKind.bits, IntKind.signed, this]
 simp only [Int.cast_ofNat_Int] at hmk
 clear hv
 go_enter Tryz.func22, Tryz.ntmps22
 go_wp2_with (go_at_call 21; refine (uA HPK _).mono ?_; rintro e w' ⟨rfl, hw'⟩; subst w')
 clear hmk
 go_loopw [5] (fun i wr => ∃ k : Nat, k <= 256 /\ i = .int .i64 (k : Int) /\ KeyInv w (bkK (v : Int) k) wr) (fun i _ => 256 - (intOf i).toNat)
 case atStart => exact ⟨0, by omega, rfl, uA X0⟩
 case round =>
  obtain ⟨k, hk, rfl, hI⟩ := hrel
  clear X0
  by_cases hk8 : k < 256
  ·have zz := hI.1.get0 k (by rw [zCW]; omega)
   have ff := hI.1.free0 k (by rw [zCW]; omega)
   have HI := uB (hI.put k (by rw [zCW]; omega) _ (zMX (v : Int) k))
   generalize (bkK (v : Int) k).getD k 0 = old at *
   clear hI
   go_wp2
   go_roundw
   case rel => exact ⟨k + 1, by omega, by go_num, uA HI⟩
   case measure => simp [intOf]; omega
  ·have hk' : k = 256 := by omega
   subst hk'
   have hcv := run_convert_bytes_arg (P := Tryz.prog) wr 119 5 Tryz.underlying119 Tryz.underlying5 w.heap.size 0 256 256 (bkK (v : Int) 256) (zCW _ 256) (fun i hi => hI.1.get i (by rw [zCW]; omega)) 9 Tryz.underlying9
   have HI := uB hI
   clear hI hk8
   go_wp2
   go_ret
   exact ⟨rfl, (uA HI).2.1⟩
def dgB (t : ByteArray) : ByteArray := strOfNums (sha (nums t))
theorem zFL (t : ByteArray) : (dgB t).size = 32 := by rw [dgB, strOfNums_size, zNw]
theorem zBK (c : ByteArray) (h2 : c.size = 256) (w : World) (hK : KTab w) :
  Calls Tryz.prog 26 #[.string c] w fun e w' => e = .returned (.tuple #[.string (dgB c), .int .i64 0]) /\ Below w.heap.size w w' := by
 have h2' : ((c.size : Int) != 256) = false := by rw [h2]; rfl
 have HM := uB (zOf c w hK (by omega))
 rw [show strOfNums (sha (nums c)) = dgB c from rfl] at HM
 generalize dgB c = dd at *
 clear hK h2
 go_enter Tryz.func26, Tryz.ntmps26
 go_wp2_with fail
 refine (uA HM).mono ?_
 rintro e w2 ⟨rfl, hB⟩
 have HB := uB hB
 clear hB
 go_wp2
 go_ret2
 exact ⟨rfl, uA HB⟩
end
section
open Go.RowKit
theorem dg_0 : (sha (bkK 0 256)).take 2 = [83, 65] := by kernel_rfl
theorem dg_1 : (sha (bkK 1 256)).take 2 = [38, 97] := by kernel_rfl
theorem dg_2 : (sha (bkK 2 256)).take 2 = [245, 194] := by kernel_rfl
theorem dg_3 : (sha (bkK 3 256)).take 2 = [224, 193] := by kernel_rfl
theorem dg_4 : (sha (bkK 4 256)).take 2 = [206, 130] := by kernel_rfl
theorem dg_5 : (sha (bkK 5 256)).take 2 = [216, 89] := by kernel_rfl
theorem dg_6 : (sha (bkK 6 256)).take 2 = [125, 217] := by kernel_rfl
end
section
open Go.RowKit
theorem dg_7 : (sha (bkK 7 256)).take 2 = [138, 0] := by kernel_rfl
theorem dg_8 : (sha (bkK 8 256)).take 2 = [33, 155] := by kernel_rfl
theorem dg_9 : (sha (bkK 9 256)).take 2 = [134, 152] := by kernel_rfl
theorem dg_10 : (sha (bkK 10 256)).take 2 = [152, 167] := by kernel_rfl
theorem dg_11 : (sha (bkK 11 256)).take 2 = [168, 95] := by kernel_rfl
theorem dg_12 : (sha (bkK 12 256)).take 2 = [13, 11] := by kernel_rfl
theorem dg_13 : (sha (bkK 13 256)).take 2 = [179, 136] := by kernel_rfl
end
section
open Go.RowKit
theorem dg_14 : (sha (bkK 14 256)).take 2 = [160, 96] := by kernel_rfl
theorem dg_15 : (sha (bkK 15 256)).take 2 = [96, 93] := by kernel_rfl
theorem dg_16 : (sha (bkK 16 256)).take 2 = [53, 133] := by kernel_rfl
theorem dg_17 : (sha (bkK 17 256)).take 2 = [132, 18] := by kernel_rfl
theorem dg_18 : (sha (bkK 18 256)).take 2 = [200, 43] := by kernel_rfl
theorem dg_19 : (sha (bkK 19 256)).take 2 = [0, 47] := by kernel_rfl
theorem dg_20 : (sha (bkK 20 256)).take 2 = [119, 197] := by kernel_rfl
def dgTab : List (List Int) := [[83, 65], [38, 97], [245, 194], [224, 193], [206, 130], [216, 89], [125, 217], [138, 0], [33, 155], [134, 152], [152, 167], [168, 95], [13, 11], [179, 136], [160, 96], [96, 93], [53, 133], [132, 18], [200, 43], [0, 47], [119, 197]]
theorem zNs (k : Nat) (hk : k < 21) : (sha (bkK (k : Int) 256)).take 2 = dgTab.getD k [] := by
 match k, hk with
 | 0, _ => exact dg_0
 | 1, _ => exact dg_1
 | 2, _ => exact dg_2
 | 3, _ => exact dg_3
 | 4, _ => exact dg_4
 | 5, _ => exact dg_5
 | 6, _ => exact dg_6
 | 7, _ => exact dg_7
 | 8, _ => exact dg_8
 | 9, _ => exact dg_9
 | 10, _ => exact dg_10
 | 11, _ => exact dg_11
 | 12, _ => exact dg_12
 | 13, _ => exact dg_13
 | 14, _ => exact dg_14
 | 15, _ => exact dg_15
 | 16, _ => exact dg_16
 | 17, _ => exact dg_17
 | 18, _ => exact dg_18
 | 19, _ => exact dg_19
 | 20, _ => exact dg_20
 | k + 21, h => omega
theorem zJ0 : ∀ i, i < 21 -> ∀ j, j < 21 -> dgTab.getD i [] = dgTab.getD j [] -> i = j := by decide
theorem zJy (s : H8) : Bytes (zAM s) := by
 intro j
 by_cases hj : j < 32
 ·obtain ⟨i, k, hi, hk, rfl⟩ : ∃ i k, i < 8 /\ k < 4 /\ j = 4 * i + k := ⟨j / 4, j % 4, by omega, by omega, by omega⟩
  rw [zNf s i k hi hk]
  exact ⟨Int.emod_nonneg _ (by decide), Int.emod_lt_of_pos _ (by decide)⟩
 ·rw [List.getD_eq_getElem?_getD, List.getElem?_eq_none (by rw [zDO]; omega)]; simp
theorem zFp (l : List Int) : Bytes (sha l) := zJy _
theorem zHd (v : Nat) (h : v < 21) : Bytes (bkK (v : Int) 256) := Bytes.of_mem (fun x hx => by
 obtain ⟨j, _, rfl⟩ := List.mem_map.1 hx
 split <;> omega)
theorem zNe (i j : Nat) (hi : i < 21) (hj : j < 21) (h : i ≠ j) : dgB (bkB i) ≠ dgB (bkB j) := fun e => h (by
 have e1 : nums (dgB (bkB i)) = nums (dgB (bkB j)) := by rw [e]
 rw [dgB, dgB, zAd _ (zFp _), zAd _ (zFp _), bkB, bkB, zAd _ (zHd i hi), zAd _ (zHd j hj)] at e1
 have e2 : (sha (bkK (i : Int) 256)).take 2 = (sha (bkK (j : Int) 256)).take 2 := by rw [e1]
 rw [zNs i hi, zNs j hj] at e2
 exact zJ0 i hi j hj e2)
end
end Go.Proofs.YtdpnbemagiekoaaGreatDoor
