import Derived.Test.YtdpnbemagiekoaaGreatDoorMe05
import Derived.Laws.CopyOwn
import Derived.Shelf.LaysM
import Derived.Shelf.Strconv.Clone
import Derived.Shelf.Bits.Mul64
import Derived.Shelf.Strings.Repeat
import Derived.Ground.Names2Prog
import Derived.Shelf.Slices.Clone
set_option maxHeartbeats 2000000
set_option maxRecDepth 100000
namespace Go.Proofs.YtdpnbemagiekoaaGreatDoor
open Go.RowKit
def layP (l : List ByteArray) (ps : List (Nat × ByteArray)) : List ByteArray := ps.foldl (fun l p => l.set p.1 p.2) l
theorem zAp (ps : List (Nat × ByteArray)) : ∀ l : List ByteArray, (layP l ps).length = l.length := by
 induction ps with
 | nil => intro l; rfl
 | cons p r ih => intro l; show (layP (l.set p.1 p.2) r).length = _; rw [ih]; simp
theorem zGX (l : List ByteArray) (ps : List (Nat × ByteArray)) (p : Nat × ByteArray) : layP l (ps ++ [p]) = (layP l ps).set p.1 p.2 := by simp [layP]
theorem zKM : ∀ (l : List (Nat × ByteArray)) (k : Nat) (hk : k < l.length), (wrs l)[k * 2]? = some (.int .i64 ((l[k].1 : Nat) : Int)) /\ (wrs l)[k * 2 + 1]? = some (.string l[k].2)
 | p :: r, 0, _ => by simp [wrs]
 | p :: r, k + 1, hk => by
  have := zKM r k (by simpa using hk)
  rw [show (k + 1) * 2 = k * 2 + 1 + 1 by omega]
  simpa [wrs] using this
theorem zGg {w : World} {base : Nat} {e : TypeId} {n m : Nat} {v : Value} {xs : List Value} {g : Nat} (h : w.ownsRow base e m v n xs) (hv : v.ownBlock = some g) (i : Nat) (hi : i < n * m) : w.cell? ⟨g, i, none⟩ = xs[i]? /\ w.frozen? ⟨g, i, none⟩ = false := by
 rcases h.2 with ⟨h1, h2⟩ | ⟨g', cap, cur, rfl, hb, hg, hn, hc, hs, hx⟩
 ·subst h2; omega
 ·obtain rfl : g' = g := by simpa [Value.ownBlock] using hv
  have hB : Blk w g' cur e := hg
  refine ⟨?_, hB.frozen i⟩
  rw [hB.cell i, <- hx, List.getElem?_take, if_pos hi]
  simp
theorem Dk.drew {w : World} {base b : Nat} {v : DV} {s : DSt} (h : Dk w base b v s) : Dk w.drew base b v s := h.below ((Below.refl _ w).drew)
theorem Dk.nilP {w : World} {base b : Nat} {v : DV} {s : DSt} (h : Dk w base b v s) : DPost base b v { s with pend := [] } w (w.setCell ⟨b, 2, none⟩ (.slice none 0 0)) := by
 refine ⟨{ v with p := .slice none 0 0 }, h.cells 2 _ _ _ rfl (zAe h.rl _ _ h.nb.1) (zAe h.rn _ _ h.nb.2.1) (World.ownsRow_nil _ _ _ _) (zAe h.ra _ _ h.nb.2.2.2) h.ne, zD5 (Only.refl _ _) _ _, fun k hk => ?_⟩
 rcases hk with hk | hk | hk | hk | hk
 ·exact .inl (.inl hk)
 ·exact .inl (.inr (.inl hk))
 ·exact .inl (.inr (.inr (.inl hk)))
 ·cases hk
 ·exact .inl (.inr (.inr (.inr (.inr hk))))
def zIN (s : DSt) : Prop := ∀ p, p ∈ s.pend -> p.1 < s.last.length
theorem zFC (w : World) (base b : Nat) (v : DV) (s : DSt) (h : Dk w base b v s) (hk : zIN s) (hz : s.pend.length <= 1000000000) (hl : 0 < s.last.length) :
  Calls Tryz.prog 101 #[.pointer (some ⟨b, 0, none⟩)] w fun e w' => e = .returned (.tuple #[]) /\ DPost base b v { s with last := layP s.last s.pend, pend := [] } w w' := by
 obtain ⟨gl, capl, evl⟩ : ∃ g cap, v.l = .slice (some ⟨g, 0, none⟩) s.last.length cap := by
  obtain ⟨g, cap, e, _⟩ := h.rl.form hl
  exact ⟨g, cap, e⟩
 obtain ⟨p, cap, ev, hcap⟩ := zAy h.rp
 have c2 : w.cell? ⟨b, 2, none⟩ = some (.slice p s.pend.length cap) := by rw [h.blk.cell 2, <- ev]; rfl
 have H := uB h
 have HE := uB ev
 have HL := uB evl
 have HK := uB hk
 clear h ev evl hk
 go_enter Tryz.func101, Tryz.ntmps101
 go_wp2
 go_loopw [9] (fun i wr => ∃ k : Nat, k <= s.pend.length /\ i = .int .i64 (k : Int) /\ Dk wr base b v { s with last := layP s.last (s.pend.take k) } /\ Only (Fd b v) w wr) (fun i _ => s.pend.length - (intOf i).toNat)
 case atStart => exact ⟨0, by omega, rfl, uA H, Only.refl _ _⟩
 case round =>
  obtain ⟨k, hk, rfl, hD, hO⟩ := hrel
  have XD := uB hD
  have XO := uB hO
  clear hD hO
  by_cases hkl : k < s.pend.length
  ·obtain ⟨gp, rfl⟩ : ∃ gp, p = some ⟨gp, 0, none⟩ := by
    obtain ⟨g, cap', e, _⟩ := (uA XD).rp.form (by simpa using (show 0 < s.pend.length by omega))
    rw [uA HE] at e
    simp at e
    exact ⟨g, e.1⟩
   have hgp : v.p.ownBlock = some gp := by rw [uA HE]; rfl
   obtain ⟨w0, w1⟩ := zKM s.pend k hkl
   have cp0 : wr.cell? ⟨gp, k * 2, none⟩ = some (.int .i64 ((s.pend[k].1 : Nat) : Int)) := by rw [(zGg (uA XD).rp hgp (k * 2) (by simp; omega)).1]; exact w0
   have cp1 : wr.cell? ⟨gp, k * 2 + 1, none⟩ = some (.string s.pend[k].2) := by rw [(zGg (uA XD).rp hgp (k * 2 + 1) (by simp; omega)).1]; exact w1
   have hjl : s.pend[k].1 < s.last.length := uA HK _ (List.getElem_mem hkl)
   have HT := uB (show s.pend.take (k + 1) = s.pend.take k ++ [s.pend[k]] by simp)
   obtain ⟨j, hj⟩ : ∃ j, j = s.pend[k].1 := ⟨_, rfl⟩
   obtain ⟨t, ht⟩ : ∃ t, t = s.pend[k].2 := ⟨_, rfl⟩
   rw [<- hj] at cp0 hjl
   rw [<- ht] at cp1
   have HJ := uB hj
   have HTT := uB ht
   have hgl : v.l.ownBlock = some gl := by rw [uA HL]; rfl
   have D1 := (uA XD).alloc (.cells #[.int .i64 (j : Int), .string t] 112)
   have hlen : (layP s.last (s.pend.take k)).length = s.last.length := zAp _ _
   have d0 : (wr.alloc (.cells #[.int .i64 (j : Int), .string t] 112)).cell? ⟨b, 0, none⟩ = some (.slice (some ⟨gl, 0, none⟩) s.last.length capl) := by rw [D1.blk.cell 0, <- uA HL]; rfl
   have dj : (wr.alloc (.cells #[.int .i64 (j : Int), .string t] 112)).cell? ⟨gl, j, none⟩ = some (.string ((layP s.last (s.pend.take k)).getD j ByteArray.empty)) := by rw [(zCd D1.rl hgl j (by simpa [hlen] using hjl)).1]; exact zCX _ _ (by simpa [hlen] using hjl)
   have fj : (wr.alloc (.cells #[.int .i64 (j : Int), .string t] 112)).frozen? ⟨gl, j, none⟩ = false := (zCd D1.rl hgl j (by simpa [hlen] using hjl)).2
   have DB := Blk.new wr 112 #[.int .i64 (j : Int), .string t]
   have n0 : (wr.alloc (.cells #[.int .i64 (j : Int), .string t] 112)).cell? ⟨wr.heap.size, 0, none⟩ = some (.int .i64 (j : Int)) := DB.cell 0
   have n1 : (wr.alloc (.cells #[.int .i64 (j : Int), .string t] 112)).cell? ⟨wr.heap.size, 1, none⟩ = some (.string t) := DB.cell 1
   have X1 := uB D1
   have XO1 := uB ((uA XO).alloc (.cells #[.int .i64 (j : Int), .string t] 112))
   have HGL := uB hgl
   have HLN := uB hlen
   clear w0 w1 hj ht hgp D1 DB hgl hlen XD XO
   go_wp2_with fail
   clear cp0 cp1
   generalize hx1 : wr.alloc (.cells #[.int .i64 (j : Int), .string t] 112) = x1 at *
   generalize wr.heap.size = gh at *
   clear hx1
   generalize (layP s.last (s.pend.take k)).getD j ByteArray.empty = old at *
   have i0 : 0 <= (j : Int) := by omega
   have i1 : (j : Int) < (s.last.length : Int) := by omega
   go_still_tail 9, (by kernel_rfl)
   change wpList _ _ _ _ _ x1.drew
   go_wp2
   go_roundw
   case rel =>
    refine ⟨k + 1, by omega, by go_num, ?_, (uA XO1).drew.setCell _ _ (fun _ => .inr (.inl (uA HGL)))⟩
    rw [uA HT, zGX, <- uA HJ, <- uA HTT]
    exact (uA X1).drew.setLast gl j (uA HGL) t
   case measure => simp [intOf]; omega
  ·have hk' : k = s.pend.length := by omega
   subst hk'
   rw [List.take_length] at XD
   have f2 := (uA XD).blk.frozen 2
   have c2' : wr.cell? ⟨b, 2, none⟩ = some v.p := by rw [(uA XD).blk.cell 2]; rfl
   have HP := uB (uA XD).nilP
   clear XD H HK HL
   go_wp2
   go_end0
   exact ⟨rfl, DPost.trans (uA XO) (fun _ q => .inl q) (uA HP)⟩
end Go.Proofs.YtdpnbemagiekoaaGreatDoor
namespace Go.Proofs.YtdpnbemagiekoaaGreatDoor
open Go.RowKit
def zAE : List (Nat × ByteArray) -> List Bool -> List (Nat × ByteArray)
 | p :: r, true :: k => p :: zAE r k
 | _ :: r, false :: k => zAE r k
 | _, _ => []
theorem zDL (p : Nat × ByteArray) (x : Bool) : ∀ (l : List (Nat × ByteArray)) (k : List Bool), l.length = k.length -> zAE (l ++ [p]) (k ++ [x]) = zAE l k ++ (if x then [p] else [])
 | [], [], _ => by cases x <;> rfl
 | q :: r, true :: k, h => by simp [zAE]; exact zDL p x r k (by simpa using h)
 | q :: r, false :: k, h => by simp [zAE]; exact zDL p x r k (by simpa using h)
theorem zED : ∀ (l : List (Nat × ByteArray)) (k : List Bool) (p : Nat × ByteArray), p ∈ zAE l k -> p ∈ l
 | [], _, p, h => by simp [zAE] at h
 | q :: r, [], p, h => by simp [zAE] at h
 | q :: r, true :: k, p, h => by
  simp [zAE] at h
  rcases h with rfl | h
  ·simp
  ·exact List.mem_cons_of_mem _ (zED r k p h)
 | q :: r, false :: k, p, h => by
  simp [zAE] at h
  exact List.mem_cons_of_mem _ (zED r k p h)
theorem zDb : ∀ (l : List (Nat × ByteArray)) (k : List Bool), (zAE l k).length <= l.length
 | [], _ => by simp [zAE]
 | q :: r, [] => by simp [zAE]
 | q :: r, true :: k => by simp [zAE]; exact zDb r k
 | q :: r, false :: k => by simp [zAE]; have := zDb r k; omega
def zPt (w : World) (g : Nat) (kl : List Bool) : Prop := ∀ j, j < kl.length -> w.cell? ⟨g, j, none⟩ = some (.bool (kl.getD j false))
theorem zCj {w : World} {B B' : Nat} {e : TypeId} {k n : Nat} {v : Value} {xs : List Value} (h : w.ownsRow B e k v n xs) (hb : B' <= B) : w.ownsRow B' e k v n xs := by
 refine ⟨h.1, ?_⟩
 rcases h.2 with hn | ⟨g, cap, cur, rfl, hg, rest⟩
 ·exact .inl hn
 ·exact .inr ⟨g, cap, cur, rfl, by omega, rest⟩
theorem Dk.setP {w : World} {base b : Nat} {v : DV} {s : DSt} (h : Dk w base b v s) (vl : Value) (ps : List (Nat × ByteArray)) (hr : w.ownsRow base 112 2 vl ps.length (wrs ps)) : Dk (w.setCell ⟨b, 2, none⟩ vl) base b { v with p := vl } { s with pend := ps } :=
 h.cells 2 _ _ _ rfl (zAe h.rl _ _ h.nb.1) (zAe h.rn _ _ h.nb.2.1) (zAe hr _ _ (h.blk.not_row (by decide) hr)) (zAe h.ra _ _ h.nb.2.2.2) h.ne
theorem zCT (w : World) (g : Nat) (cs : Array Value) : Only (fun k => k = g) w (w.setRow g cs) :=
 ⟨⟨rfl, rfl, rfl, by simp [World.setRow], fun k hk => absurd hk (Nat.not_lt_zero k)⟩, fun k _ hn => setRow_other w g k cs hn⟩
theorem Dk.copyNow {w : World} {base b : Nat} {v : DV} {s : DSt} (h : Dk w base b v s) (g : Nat) (hg : v.n.ownBlock = some g) (cur : Array Value) (hc : w.heap[g]? = some (.cells cur 9 (0, 0))) (hln : s.now.length = s.last.length) :
  Dk (w.setRow g (cur.toList.take 0 ++ (strs s.last ++ cur.toList.drop (0 + (strs s.last).length))).toArray) base b v { s with now := s.last } /\ Only (Fd b v) w (w.setRow g (cur.toList.take 0 ++ (strs s.last ++ cur.toList.drop (0 + (strs s.last).length))).toArray) := by
 have hO := zCT w g (cur.toList.take 0 ++ (strs s.last ++ cur.toList.drop (0 + (strs s.last).length))).toArray
 refine ⟨⟨h.blk.only hO (fun q => h.nb.2.1 (q ▸ hg)), zAh h.rl hO (fun k hk q => h.ne k hk (q ▸ hg)), ?_, zAh h.rp hO (fun k hk q => zBA h.rn h.rp (by decide) g hg (q ▸ hk)), zAh h.ra hO (fun k hk q => zBA h.rn h.ra (by decide) g hg (q ▸ hk)), h.ne, h.lo⟩, hO.mono (fun k _ q => .inr (.inr (.inl (q ▸ hg))))⟩
 refine ⟨by simp [zBC], ?_⟩
 rcases h.rn.2 with ⟨h1, h2⟩ | ⟨g', cap, cur', e, hb, hh, hn, hc', hs, hx⟩
 ·rw [h1] at hg; cases hg
 ·obtain rfl : g' = g := by rw [e] at hg; simpa [Value.ownBlock] using hg
  have ecur : cur' = cur := by have := hh.symm.trans hc; simpa using this
  subst ecur
  refine .inr ⟨g', cap, _, by rw [e, hln], hb, setRow_heap w g' cur' _ 9 _ hc, by show s.last.length <= cap; omega, hc', ?_, ?_⟩
  ·simp [zBC]; omega
  ·simp [zBC]
theorem zMN (w : World) (base b : Nat) (v : DV) (s : DSt) (h : Dk w base b v s) (hb : base <= w.heap.size) (hk : zIN s) (hz : s.pend.length <= 1000000000) (hl : 0 < s.last.length) (hln : s.now.length = s.last.length) (gk : Nat) (hgk : gk < w.heap.size) (kl : List Bool) (hkl : kl.length = s.pend.length) (hB : zPt w gk kl) (ck : Nat) :
  Calls Tryz.prog 78 #[.pointer (some ⟨b, 0, none⟩), .slice (some ⟨gk, 0, none⟩) s.pend.length ck] w fun e w' => e = .returned (.tuple #[]) /\ DPost base b v { s with last := layP s.last (zAE s.pend kl), now := layP s.last (zAE s.pend kl), pend := [] } w w' := by
 obtain ⟨p, cap, ev, hcap⟩ := zAy h.rp
 have c2 : w.cell? ⟨b, 2, none⟩ = some (.slice p s.pend.length cap) := by rw [h.blk.cell 2, <- ev]; rfl
 have H := uB h
 have HE := uB ev
 have HK := uB hk
 have HB := uB hB
 clear h ev hk hB
 go_enter Tryz.func78, Tryz.ntmps78
 go_wp2
 go_loopw [4, 12] (fun u i wr => ∃ k : Nat, k <= s.pend.length /\ i = .int .i64 (k : Int) /\ wr.ownsRow w.heap.size 112 2 u (zAE (s.pend.take k) (kl.take k)).length (wrs (zAE (s.pend.take k) (kl.take k))) /\ Below w.heap.size w wr) (fun _ i _ => s.pend.length - (intOf i).toNat)
 case atStart => exact ⟨0, by omega, rfl, by simpa [zAE, wrs] using World.ownsRow_nil _ _ _ _, Below.refl _ _⟩
 case round =>
  obtain ⟨k, hk, rfl, hrow, hbel⟩ := hrel
  obtain ⟨vl, rfl⟩ : ∃ v, v = u4 := ⟨_, rfl⟩
  have XD := uB ((uA H).below hbel)
  have XB := uB hbel
  have XR := uB hrow
  have hsz := hbel.size
  clear hrow hbel
  by_cases hkk : k < s.pend.length
  ·obtain ⟨gp, rfl⟩ : ∃ gp, p = some ⟨gp, 0, none⟩ := by
    obtain ⟨g, cap', e, _⟩ := (uA XD).rp.form (by omega)
    rw [uA HE] at e
    simp at e
    exact ⟨g, e.1⟩
   have hgp : v.p.ownBlock = some gp := by rw [uA HE]; rfl
   obtain ⟨w0, w1⟩ := zKM s.pend k hkk
   have cp0 : wr.cell? ⟨gp, k * 2, none⟩ = some (.int .i64 ((s.pend[k].1 : Nat) : Int)) := by rw [(zGg (uA XD).rp hgp (k * 2) (by omega)).1]; exact w0
   have cp1 : wr.cell? ⟨gp, k * 2 + 1, none⟩ = some (.string s.pend[k].2) := by rw [(zGg (uA XD).rp hgp (k * 2 + 1) (by omega)).1]; exact w1
   have hlen : (zAE (s.pend.take k) (kl.take k)).length <= s.pend.length := Nat.le_trans (zDb _ _) (by simp; omega)
   have ckk : wr.cell? ⟨gk, k, none⟩ = some (.bool (kl.getD k false)) := by rw [(uA XB).cell (p := ⟨gk, k, none⟩) hgk]; exact uA HB k (by omega)
   have HT := uB (show zAE (s.pend.take (k + 1)) (kl.take (k + 1)) = zAE (s.pend.take k) (kl.take k) ++ (if kl.getD k false then [s.pend[k]] else []) by
    have e1 : s.pend.take (k + 1) = s.pend.take k ++ [s.pend[k]] := by simp
    have e2 : kl.take (k + 1) = kl.take k ++ [kl.getD k false] := by
     rw [List.take_succ_eq_append_getElem (by omega)]
     simp [List.getD_eq_getElem?_getD, show k < kl.length by omega]
    rw [e1, e2]
    exact zDL _ _ _ _ (by simp; omega))
   obtain ⟨j, hj⟩ : ∃ j, j = s.pend[k].1 := ⟨_, rfl⟩
   obtain ⟨t, ht⟩ : ∃ t, t = s.pend[k].2 := ⟨_, rfl⟩
   have HP := uB (show s.pend[k] = (j, t) by rw [hj, ht])
   rw [<- hj] at cp0
   rw [<- ht] at cp1
   have hgl : gk < wr.heap.size := by omega
   clear w0 w1 hj ht hgp XD
   generalize kl.getD k false = kb at *
   cases kb with
   | false =>
    go_wp2
    go_roundw
    case rel =>
     refine ⟨k + 1, by omega, by go_num, ?_, (uA XB).alloc hsz _⟩
     rw [uA HT]
     simpa using (uA XR).alloc _
    case measure => simp [intOf]; omega
   | true =>
    obtain ⟨i0, hi0, hz0, hz1, hz2⟩ := info_parts zPu
    have HI := uB (And.intro hi0 (And.intro hz0 (And.intro hz1 hz2)))
    clear hi0 hz0 hz1 hz2
    go_wp2_with (refine wpList_append_own _ rfl (.tmp 21) (.tmp 23) 63 rfl w.heap.size 112 i0 (.agg #[.int .i64 0, .string ⟨#[]⟩]) 2 24 Tryz.underlying63 (uA HI).1 (uA HI).2.1 (uA HI).2.2.1 (uA HI).2.2.2 rfl (by decide) _ _ (wrs (zAE (s.pend.take k) (kl.take k))) rfl (((uA XR).alloc _).alloc _) ⟨wr.heap.size + 1, 0, none⟩ 1 1 (wrs [(j, t)]) rfl rfl (fun q u hu => by have := zEh (wr.alloc (.cells #[.int .i64 (j : Int), .string t] 112)) 112 _ _ q u hu; simpa using this) (by simp [wrs, Value.oneCell']) (by unfold maxLen; omega) (by omega) (by simp; omega) ?_)
    intro v' x1 ho hg _
    have HO := uB ho
    have HB1 := uB (show Below w.heap.size w x1 from (((uA XB).alloc hsz _).alloc (by simp; omega) _).grown hg (by simp; omega) (fun q hq => ((uA XR).lt q hq).1))
    clear ho hg
    go_wp2
    go_roundw
    case rel =>
     refine ⟨k + 1, by omega, by go_num, ?_, uA HB1⟩
     rw [uA HT, uA HP]
     have := uA HO
     simpa [zH3] using this
    case measure => simp [intOf]; omega
  ·have hk' : k = s.pend.length := by omega
   subst hk'
   rw [List.take_length, List.take_of_length_le (by omega)] at XR
   have f2 := (uA XD).blk.frozen 2
   have c2' : wr.cell? ⟨b, 2, none⟩ = some v.p := by rw [(uA XD).blk.cell 2]; rfl
   have D1 := (uA XD).setP vl (zAE s.pend kl) (zCj (uA XR) hb)
   have hO1 : Only (Fd b v) w (wr.setCell ⟨b, 2, none⟩ vl) := (Only.of_below (uA XB)).setCell _ _ (fun _ => .inl rfl)
   have hF1 : ∀ q, Fd b { v with p := vl } q -> Fd b v q ∨ w.heap.size <= q := fun q hq => by
    rcases hq with hq | hq | hq | hq | hq
    ·exact .inl (.inl hq)
    ·exact .inl (.inr (.inl hq))
    ·exact .inl (.inr (.inr (.inl hq)))
    ·exact .inr ((uA XR).lt q hq).1
    ·exact .inl (.inr (.inr (.inr (.inr hq))))
   have hk2 : zIN { s with pend := zAE s.pend kl } := fun q hq => uA HK q (zED _ _ _ hq)
   have hz2 := zDb s.pend kl
   obtain ⟨pp, cc, evl, _⟩ := zAy (uA XR)
   subst evl
   have X1 := uB D1
   have XO := uB hO1
   have XF := uB hF1
   have XK := uB hk2
   clear D1 hO1 hF1 hk2 XD XR XB H HK HB hkk hk hsz
   go_wp2_with fail
   refine (zFC _ base b _ _ (uA X1) (uA XK) (by show (zAE s.pend kl).length <= _; omega) (by exact hl)).mono ?_
   rintro ev x2 ⟨rfl, v2, hD2, hO2, hF2⟩
   have hll : (layP s.last (zAE s.pend kl)).length = s.last.length := zAp _ _
   obtain ⟨gn, capn, evn, _⟩ := hD2.rn.form (by show 0 < s.now.length; omega)
   obtain ⟨gl, capl, evl, _⟩ := hD2.rl.form (by show 0 < (layP s.last (zAE s.pend kl)).length; omega)
   have hgn : v2.n.ownBlock = some gn := by rw [evn]; rfl
   have hgl : v2.l.ownBlock = some gl := by rw [evl]; rfl
   have d1 : x2.cell? ⟨b, 1, none⟩ = some (.slice (some ⟨gn, 0, none⟩) s.now.length capn) := by rw [hD2.blk.cell 1, <- evn]; rfl
   have d0 : x2.cell? ⟨b, 0, none⟩ = some (.slice (some ⟨gl, 0, none⟩) (layP s.last (zAE s.pend kl)).length capl) := by rw [hD2.blk.cell 0, <- evl]; rfl
   obtain ⟨cur, hcur, hcz⟩ : ∃ cur, x2.heap[gn]? = some (.cells cur 9 (0, 0)) /\ s.now.length <= cur.size := by
    rcases hD2.rn.2 with ⟨h1, h2⟩ | ⟨g', cap', cur', e, _, hh, hn, _, hs, _⟩
    ·rw [h1] at hgn; cases hgn
    ·obtain rfl : g' = gn := by rw [e] at hgn; simpa [Value.ownBlock] using hgn
     exact ⟨cur', hh, by have hn : s.now.length <= cap' := hn; omega⟩
   have HL := uB (show ∀ j u, (strs (layP s.last (zAE s.pend kl)))[j]? = some u -> x2.cell? (Addr.add ⟨gl, 0, none⟩ j) = some u from fun j u hu => by
    have hjl : j < (layP s.last (zAE s.pend kl)).length := by
     have := (List.getElem?_eq_some_iff.1 hu).1
     rwa [zBC] at this
    rw [Addr.add_mid, Nat.zero_add, (zCd hD2.rl hgl j hjl).1]
    exact hu)
   have HC := uB (hD2.copyNow gn hgn cur hcur (by show s.now.length = (layP s.last (zAE s.pend kl)).length; omega))
   have HCU := uB hcur
   have XO2 := uB hO2
   have XF2 := uB hF2
   have HLL := uB hll
   clear hD2 hO2 hF2 evn evl hgn hgl hcur X1 XK hll
   generalize hLe : layP s.last (zAE s.pend kl) = L at *
   have HLE := uB hLe
   clear hLe
   go_wp2_with fail
   go_still_tail 8, (by kernel_rfl)
   change wpList _ _ _ _ _ x2.drew
   refine wpList_copy_own rfl (.tmp 35) (.tmp 39) 62 62 rfl 9 Tryz.underlying62 (by kernel_rfl) gn 0 s.last.length capn ⟨gl, 0, none⟩ L.length capl rfl rfl cur 9 (uA HCU) (strs L) (by rw [zBC]; have := uA HLL; simp only [Nat.min_def]; split <;> omega) (uA HL) (by rw [zBC]; have := uA HLL; omega) (by simp [strs, Value.oneCell']) ?_
   have HC2 := uB (show Dk _ base b v2 _ /\ Only (Fd b v2) x2 _ from uA HC)
   clear HC
   generalize hcw : (cur.toList.take 0 ++ (strs L ++ cur.toList.drop (0 + (strs L).length))).toArray = cw at *
   clear hcw HL HCU
   go_wp2
   go_end0
   obtain ⟨g1, g2⟩ := uA HC2
   obtain rfl := uA HLE
   have g3 : Only (Fd b v2) x2 (x2.drew.setRow gn cw) := g2.drew
   have g4 : Dk (x2.drew.setRow gn cw) base b v2 _ := g1.drew
   exact ⟨rfl, DPost.trans (uA XO) (uA XF) (DPost.trans (uA XO2) (uA XF2) ⟨v2, g4, g3, fun _ q => .inl q⟩)⟩
end Go.Proofs.YtdpnbemagiekoaaGreatDoor
/-
 DERIVED: THE SHELF's CONTRACTS AT THIS DUMP, IN PLAIN WORDS (tools/lay-plain.mjs out of 'TryzShelf.lean', which tools/lay-shelf.mjs wrote): THE SAME DECLARATIONS UNDER THE SAME NAMES: 'import', 'namespace', 'open', 'def', 'theorem' AND NOTHING ELSE: no command of the shelf's: FOR A HAND-IN. Each laying: the table of numbers ('.._ren') and one theorem, a field a fact of the dump's own or the kernel's comparison; each contract: ONE APPLICATION.
-/
namespace Go.Proofs.YtdpnbemagiekoaaGreatDoor
open Go.Shelf
def Tryz.laysM316_ren : Go.Shelf.Ren := ⟨fun | 316 => 132 | n => n, fun | 9 => 9 | 3 => 3 | 4 => 4 | 37 => 119 | 0 => 0 | 127 => 260 | 5 => 5 | n => n, fun | n => n⟩
theorem Tryz.laysM316 : Go.Proofs.LaysM.n316 Tryz.prog Tryz.laysM316_ren := {
 mixed := by kernel_rfl
 f316 := Tryz.func132.trans (congrArg some (by kernel_rfl))
 t0 := Tryz.underlying0
 a0 := Tryz.isAgg0
 z0 := Tryz.sizeOf0
 v0 := Tryz.zeroValue0
 t3 := Tryz.underlying3
 a3 := Tryz.isAgg3
 z3 := Tryz.sizeOf3
 v3 := Tryz.zeroValue3
 t4 := Tryz.underlying4
 a4 := Tryz.isAgg4
 z4 := Tryz.sizeOf4
 v4 := Tryz.zeroValue4
 t9 := Tryz.underlying9
 a9 := Tryz.isAgg9
 z9 := Tryz.sizeOf9
 v9 := Tryz.zeroValue9
 t37 := Tryz.underlying119
 a37 := Tryz.isAgg119
 z37 := Tryz.sizeOf119
 v37 := Tryz.zeroValue119
 t127 := Tryz.underlying260
 a127 := Tryz.isAgg260
 z127 := Tryz.sizeOf260
 v127 := Tryz.zeroValue260
 t5 := Tryz.underlying5
 a5 := Tryz.isAgg5
 z5 := Tryz.sizeOf5
 v5 := Tryz.zeroValue5
 i0 := by kernel_rfl
 i3 := by kernel_rfl
 i4 := by kernel_rfl
 i5 := by kernel_rfl
 i9 := by kernel_rfl
 i37 := by kernel_rfl
 i127 := by kernel_rfl }
open Go.RowKit in
theorem Tryz.stringslite_Clone (s : ByteArray) (w : World) (hlim : s.size <= 281474976710656) :
  Calls Tryz.prog 132 #[.string s] w fun e w' => e = .returned (.string s) /\ Below w.heap.size w w' := Any.stringslite_Clone Tryz.laysM316 s w hlim
def Tryz.lays264_ren : Go.Shelf.Ren := ⟨fun | 264 => 240 | n => n, fun | 53 => 289 | 46 => 212 | n => n, fun | n => n⟩
theorem Tryz.lays264 : Go.Proofs.Lays.n264 Tryz.prog Tryz.lays264_ren := {
 mixed := by kernel_rfl
 f264 := Tryz.func240.trans (congrArg some (by kernel_rfl))
 t46 := Tryz.underlying212
 a46 := Tryz.isAgg212
 z46 := Tryz.sizeOf212
 v46 := Tryz.zeroValue212
 t53 := Tryz.underlying289
 a53 := Tryz.isAgg289
 z53 := Tryz.sizeOf289
 v53 := Tryz.zeroValue289 }
open Go.RowKit Go.Lib in
theorem Tryz.bits_Mul64 (x y : Nat) (hx : x < 18446744073709551616) (hy : y < 18446744073709551616) (w : World) :
  Calls Tryz.prog 240 #[.int .u64 x, .int .u64 y] w fun e w' => e = .returned (.tuple #[.int .u64 ((x * y / 18446744073709551616 : Nat) : Int), .int .u64 ((x * y % 18446744073709551616 : Nat) : Int)]) /\ w' = w := Any.bits_Mul64 Tryz.lays264 x y hx hy w
def Tryz.lays212_ren : Go.Shelf.Ren := ⟨fun | 212 => 159 | 263 => 239 | 264 => 240 | n => n, fun | 46 => 212 | 51 => 149 | 146 => 287 | 53 => 289 | 148 => 290 | n => n, fun | n => n⟩
theorem Tryz.lays212 : Go.Proofs.Lays.n212 Tryz.prog Tryz.lays212_ren := {
 mixed := by kernel_rfl
 f212 := Tryz.func159.trans (congrArg some (by kernel_rfl))
 f263 := Tryz.func239.trans (congrArg some (by kernel_rfl))
 f264 := Tryz.func240.trans (congrArg some (by kernel_rfl))
 t46 := Tryz.underlying212
 a46 := Tryz.isAgg212
 z46 := Tryz.sizeOf212
 v46 := Tryz.zeroValue212
 t51 := Tryz.underlying149
 a51 := Tryz.isAgg149
 z51 := Tryz.sizeOf149
 v51 := Tryz.zeroValue149
 t53 := Tryz.underlying289
 a53 := Tryz.isAgg289
 z53 := Tryz.sizeOf289
 v53 := Tryz.zeroValue289
 t146 := Tryz.underlying287
 a146 := Tryz.isAgg287
 z146 := Tryz.sizeOf287
 v146 := Tryz.zeroValue287
 t148 := Tryz.underlying290
 a148 := Tryz.isAgg290
 z148 := Tryz.sizeOf290
 v148 := Tryz.zeroValue290 }
open Go.RowKit Go.Lib in
theorem Tryz.bits_Mul (x y : Nat) (hx : x < 18446744073709551616) (hy : y < 18446744073709551616) (w : World) :
  Calls Tryz.prog 159 #[.int .u64 x, .int .u64 y] w fun e w' => e = .returned (.tuple #[.int .u64 ((x * y / 18446744073709551616 : Nat) : Int), .int .u64 ((x * y % 18446744073709551616 : Nat) : Int)]) /\ w' = w := Any.bits_Mul Tryz.lays212 x y hx hy w
def Tryz.lays105_ren : Go.Shelf.Ren := ⟨fun | 105 => 87 | 212 => 159 | 99 => 160 | 165 => 161 | 166 => 162 | 170 => 163 | 169 => 164 | 263 => 239 | 264 => 240 | 206 => 241 | 240 => 242 | 241 => 243 | 276 => 290 | 277 => 291 | n => n, fun | 9 => 9 | 3 => 3 | 4 => 4 | 20 => 20 | 0 => 0 | 46 => 212 | 109 => 213 | 5 => 5 | 72 => 218 | 76 => 219 | 51 => 149 | 146 => 287 | 53 => 289 | 148 => 290 | 70 => 216 | 37 => 119 | 75 => 86 | 127 => 260 | 164 => 343 | 80 => 190 | n => n, fun | n => n⟩
theorem Tryz.lays105 : Go.Proofs.Lays.n105 Tryz.prog Tryz.lays105_ren := {
 mixed := by kernel_rfl
 f99 := Tryz.func160.trans (congrArg some (by kernel_rfl))
 f105 := Tryz.func87.trans (congrArg some (by kernel_rfl))
 f165 := Tryz.func161.trans (congrArg some (by kernel_rfl))
 f166 := Tryz.func162.trans (congrArg some (by kernel_rfl))
 f169 := Tryz.func164.trans (congrArg some (by kernel_rfl))
 f170 := Tryz.func163.trans (congrArg some (by kernel_rfl))
 f206 := Tryz.func241.trans (congrArg some (by kernel_rfl))
 f212 := Tryz.func159.trans (congrArg some (by kernel_rfl))
 f240 := Tryz.func242.trans (congrArg some (by kernel_rfl))
 f241 := Tryz.func243.trans (congrArg some (by kernel_rfl))
 f263 := Tryz.func239.trans (congrArg some (by kernel_rfl))
 f264 := Tryz.func240.trans (congrArg some (by kernel_rfl))
 f276 := Tryz.func290.trans (congrArg some (by kernel_rfl))
 f277 := Tryz.func291.trans (congrArg some (by kernel_rfl))
 t0 := Tryz.underlying0
 a0 := Tryz.isAgg0
 z0 := Tryz.sizeOf0
 v0 := Tryz.zeroValue0
 t3 := Tryz.underlying3
 a3 := Tryz.isAgg3
 z3 := Tryz.sizeOf3
 v3 := Tryz.zeroValue3
 t4 := Tryz.underlying4
 a4 := Tryz.isAgg4
 z4 := Tryz.sizeOf4
 v4 := Tryz.zeroValue4
 t5 := Tryz.underlying5
 a5 := Tryz.isAgg5
 z5 := Tryz.sizeOf5
 v5 := Tryz.zeroValue5
 t9 := Tryz.underlying9
 a9 := Tryz.isAgg9
 z9 := Tryz.sizeOf9
 v9 := Tryz.zeroValue9
 t20 := Tryz.underlying20
 a20 := Tryz.isAgg20
 z20 := Tryz.sizeOf20
 v20 := Tryz.zeroValue20
 t37 := Tryz.underlying119
 a37 := Tryz.isAgg119
 z37 := Tryz.sizeOf119
 v37 := Tryz.zeroValue119
 t46 := Tryz.underlying212
 a46 := Tryz.isAgg212
 z46 := Tryz.sizeOf212
 v46 := Tryz.zeroValue212
 t51 := Tryz.underlying149
 a51 := Tryz.isAgg149
 z51 := Tryz.sizeOf149
 v51 := Tryz.zeroValue149
 t53 := Tryz.underlying289
 a53 := Tryz.isAgg289
 z53 := Tryz.sizeOf289
 v53 := Tryz.zeroValue289
 t70 := Tryz.underlying216
 a70 := Tryz.isAgg216
 z70 := Tryz.sizeOf216
 v70 := Tryz.zeroValue216
 t72 := Tryz.underlying218
 a72 := Tryz.isAgg218
 z72 := Tryz.sizeOf218
 v72 := Tryz.zeroValue218
 t75 := Tryz.underlying86
 a75 := Tryz.isAgg86
 z75 := Tryz.sizeOf86
 v75 := Tryz.zeroValue86
 t76 := Tryz.underlying219
 a76 := Tryz.isAgg219
 z76 := Tryz.sizeOf219
 v76 := Tryz.zeroValue219
 t109 := Tryz.underlying213
 a109 := Tryz.isAgg213
 z109 := Tryz.sizeOf213
 v109 := Tryz.zeroValue213
 t127 := Tryz.underlying260
 a127 := Tryz.isAgg260
 z127 := Tryz.sizeOf260
 v127 := Tryz.zeroValue260
 t146 := Tryz.underlying287
 a146 := Tryz.isAgg287
 z146 := Tryz.sizeOf287
 v146 := Tryz.zeroValue287
 t148 := Tryz.underlying290
 a148 := Tryz.isAgg290
 z148 := Tryz.sizeOf290
 v148 := Tryz.zeroValue290
 t164 := Tryz.underlying343
 a164 := Tryz.isAgg343
 z164 := Tryz.sizeOf343
 v164 := Tryz.zeroValue343 }
theorem Tryz.Builder_Extra_105 : Builder.Extra Tryz.prog Tryz.lays105_ren := {
 sizeBuilder := by kernel_rfl
 liesBuilder := by kernel_rfl
 t5 := Tryz.underlying5
 a5 := Tryz.isAgg5
 z5 := Tryz.sizeOf5
 v5 := Tryz.zeroValue5
 infoByte := by kernel_rfl
 cellsByte := by kernel_rfl
 sizeByte := by kernel_rfl
 neB5 := by decide }
open Go.RowKit Go.Lib in
theorem Tryz.strings_Repeat_main (s : ByteArray) (c : Nat) (w : World) (hc2 : 2 <= c) (hc : c <= 9223372036854775807) (hlen : s.size * c <= 140737488355328) (h0 : 0 < s.size) :
  Calls Tryz.prog 87 #[.string s, .int .i64 c] w fun e w' => e = .returned (.string ⟨(Lib.repeatL s.data.toList c).toArray⟩) /\ Below w.heap.size w w' := Any.strings_Repeat_main Tryz.lays105 Tryz.Builder_Extra_105 s c w hc2 hc hlen h0
open Go.RowKit Go.Lib in
theorem Tryz.strings_Repeat_zero (s : ByteArray) (w : World) :
  Calls Tryz.prog 87 #[.string s, .int .i64 0] w fun e w' => e = .returned (.string ⟨#[]⟩) /\ w' = w := Any.strings_Repeat_zero Tryz.lays105 s w
open Go.RowKit Go.Lib in
theorem Tryz.strings_Repeat_one (s : ByteArray) (w : World) :
  Calls Tryz.prog 87 #[.string s, .int .i64 1] w fun e w' => e = .returned (.string s) /\ w' = w := Any.strings_Repeat_one Tryz.lays105 s w
open Go.RowKit Go.Lib in
theorem Tryz.strings_Repeat_empty (s : ByteArray) (c : Nat) (w : World) (hc2 : 2 <= c) (hc : c <= 9223372036854775807) (h0 : s.size = 0) :
  Calls Tryz.prog 87 #[.string s, .int .i64 c] w fun e w' => e = .returned (.string ⟨#[]⟩) /\ w' = w := Any.strings_Repeat_empty Tryz.lays105 s c w hc2 hc h0
open Go.RowKit Go.Lib in
theorem Tryz.strings_Repeat_negative (s : ByteArray) (c : Int) (w : World) (hc : c < 0) :
  Calls Tryz.prog 87 #[.string s, .int .i64 c] w fun e w' => e = .panicked [{ v := repeatPanic Tryz.lays105_ren "strings: negative Repeat count", recovered := false }] /\ w' = w := Any.strings_Repeat_negative Tryz.lays105 s c w hc
open Go.RowKit Go.Lib in
theorem Tryz.strings_Repeat_overflow (s : ByteArray) (c : Nat) (w : World) (hc : c <= 9223372036854775807) (hs : s.size <= 9223372036854775807) (hbig : 9223372036854775807 < s.size * c) :
  Calls Tryz.prog 87 #[.string s, .int .i64 c] w fun e w' => e = .panicked [{ v := repeatPanic Tryz.lays105_ren "strings: Repeat output length overflow", recovered := false }] /\ w' = w := Any.strings_Repeat_overflow Tryz.lays105 s c w hc hs hbig
open Go.RowKit Go.Lib in
theorem Tryz.strings_Repeat (s : ByteArray) (c : Nat) (w : World) (hc : c <= 9223372036854775807) (hlen : s.size * c <= 140737488355328) :
  Calls Tryz.prog 87 #[.string s, .int .i64 c] w fun e w' => e = .returned (.string ⟨(Lib.repeatL s.data.toList c).toArray⟩) /\ Below w.heap.size w w' := Any.strings_Repeat Tryz.lays105 Tryz.Builder_Extra_105 s c w hc hlen
def Tryz.laysNm216_ren : Go.Shelf.Ren := ⟨fun | 16 => 83 | n => n, fun | 24 => 62 | 9 => 9 | 4 => 4 | n => n, fun | n => n⟩
theorem Tryz.laysNm216 : Go.Proofs.Lays2.n16 Tryz.prog Tryz.laysNm216_ren := {
 mixed := by kernel_rfl
 f16 := Tryz.func83.trans (congrArg some (by kernel_rfl))
 t4 := Tryz.underlying4
 a4 := Tryz.isAgg4
 z4 := Tryz.sizeOf4
 v4 := Tryz.zeroValue4
 t9 := Tryz.underlying9
 a9 := Tryz.isAgg9
 z9 := Tryz.sizeOf9
 v9 := Tryz.zeroValue9
 t24 := Tryz.underlying62
 a24 := Tryz.isAgg62
 z24 := Tryz.sizeOf62
 v24 := Tryz.zeroValue62
 i9 := by kernel_rfl }
open Go.RowKit Go.Lib in
theorem Tryz.slices_Clone_string (b off n c : Nat) (zs : List ByteArray) (w : World) (hz : n <= zs.length) (hbig : n * 16 <= 140737488355328) (hc : ∀ j, j < zs.length -> w.cell? ⟨b, off + j, none⟩ = some (.string (zs.getD j ByteArray.empty))) :
  Calls Tryz.prog 83 #[.slice (some ⟨b, off, none⟩) n c] w fun e w' => ∃ v', e = .returned v' /\ w'.ownsRow w.heap.size 9 1 v' n ((zs.take n).map (Value.string)) /\ v' ≠ .slice none 0 0 /\ Below w.heap.size w w' := Any.slices_Clone_string Tryz.laysNm216 b off n c zs w hz hbig hc
open Go.RowKit Go.Lib in
theorem Tryz.slices_Clone_string_nil (n c : Nat) (w : World) :
  Calls Tryz.prog 83 #[.slice none n c] w fun e w' => e = .returned (.slice none 0 0) /\ w' = w := Any.slices_Clone_string_nil Tryz.laysNm216 n c w
open Go.RowKit Go.Lib in
theorem Tryz.slices_Clone_string_zero (a : Addr) (c : Nat) (w : World) :
  Calls Tryz.prog 83 #[.slice (some a) 0 c] w fun e w' => ∃ v', e = .returned v' /\ w'.ownsRow w.heap.size 9 1 v' 0 [] /\ v' ≠ .slice none 0 0 /\ Below w.heap.size w w' := Any.slices_Clone_string_zero Tryz.laysNm216 a c w
end Go.Proofs.YtdpnbemagiekoaaGreatDoor
namespace Go.Proofs.YtdpnbemagiekoaaGreatDoor
open Go.RowKit
theorem zAY {P : Program} {ops : Array Oper} {Q : Exit -> Act -> World -> Prop} {md : Region.Mode} {S : World -> Prop} (i : Nat) (d : Option Tmp) (v : Value) {oi : Oper} {fuel : Nat} {listed : Array Bool} {a : Act} {w : World} (hi : ops[i]? = some oi) (hd : oi.dst = d)
  (hs : Region.noSelect ops = true) (hf : Region.free md ops listed i = true) (hr : (Region.ready md ops listed).contains i = true)
  (hQ : ∀ c a w, Q (.panic c) (a.put d v) w -> Q (.panic c) a w) (hy : YieldsIf P ops S oi v a) (hS : S w)
  (h : wpAnyH P md ops Q S fuel (listed.setIfInBounds i true) (a.put d v) w) : wpAnyH P md ops Q S (fuel + 1) listed a w := by
 subst hd
 exact wpAnyH_take hi hs hf hr hQ hy hS h
section
variable {P : Program} {ops : Array Oper} {Q : Exit -> Act -> World -> Prop} {md : Region.Mode} {S : World -> Prop} {oi : Oper} {fuel : Nat} {listed L : Array Bool} {a A : Act} {w : World}
theorem yK (i : Nat) (d : Option Tmp) (v : Value) (hi : ops[i]? = some oi) (hy : YieldsIf P ops S oi v a) (hS : S w) (h : wpAnyH P md ops Q S fuel L A w)  (hL : listed.setIfInBounds i true = L := by first | (simp only [List.setIfInBounds_toArray, List.set_cons_zero, List.set_cons_succ]; rfl) | rfl) (hA : a.put d v = A := by first | (simp only [Act.put, List.setIfInBounds_toArray, List.set_cons_zero, List.set_cons_succ]; rfl) | rfl) (hd : oi.dst = d := by rfl) (hs : Region.noSelect ops = true := by kernel_rfl) (hf : Region.free md ops listed i = true := by kernel_rfl) (hr : (Region.ready md ops listed).contains i = true := by kernel_rfl) (hQ : ∀ c a w, Q (.panic c) (a.put d v) w -> Q (.panic c) a w := by exact fun _ _ _ h => h)  : wpAnyH P md ops Q S (fuel + 1) listed a w := by
 subst hL hA
 exact zAY i d v hi hd hs hf hr hQ hy hS h
theorem yL (i : Nat) (d : Option Tmp) (v : Value) (hi : ops[i]? = some oi) (hy : ∀ w, S w -> (execOp a.eval oi).run P w = .ok (.value v) w) (hS : S w) (h : wpAnyH P md ops Q S fuel L A w)  (hL : listed.setIfInBounds i true = L := by first | (simp only [List.setIfInBounds_toArray, List.set_cons_zero, List.set_cons_succ]; rfl) | rfl) (hA : a.put d v = A := by first | (simp only [Act.put, List.setIfInBounds_toArray, List.set_cons_zero, List.set_cons_succ]; rfl) | rfl) (hd : oi.dst = d := by rfl) (hs : Region.noSelect ops = true := by kernel_rfl) (hf : Region.free md ops listed i = true := by kernel_rfl) (hr : (Region.ready md ops listed).contains i = true := by kernel_rfl) (hQ : ∀ c a w, Q (.panic c) (a.put d v) w -> Q (.panic c) a w := by exact fun _ _ _ h => h) (hw : Region.wanted oi (yielded ops a.tmps) = true := by rfl) : wpAnyH P md ops Q S (fuel + 1) listed a w := by
 subst hL hA
 exact zAY i d v hi hd hs hf hr hQ (Or.inl ⟨hw, hy⟩) hS h
theorem yR (i : Nat) (d : Option Tmp) (hi : ops[i]? = some oi)  (hS : S w) (h : wpAnyH P md ops Q S fuel L A w)  (hL : listed.setIfInBounds i true = L := by first | (simp only [List.setIfInBounds_toArray, List.set_cons_zero, List.set_cons_succ]; rfl) | rfl) (hA : a.put d undef = A := by first | (simp only [Act.put, List.setIfInBounds_toArray, List.set_cons_zero, List.set_cons_succ]; rfl) | rfl) (hd : oi.dst = d := by rfl) (hs : Region.noSelect ops = true := by kernel_rfl) (hf : Region.free md ops listed i = true := by kernel_rfl) (hr : (Region.ready md ops listed).contains i = true := by kernel_rfl) (hQ : ∀ c a w, Q (.panic c) (a.put d undef) w -> Q (.panic c) a w := by exact fun _ _ _ h => h) (hw : Region.wanted oi (yielded ops a.tmps) = false := by rfl) : wpAnyH P md ops Q S (fuel + 1) listed a w := by
 subst hL hA
 exact zAY i d undef hi hd hs hf hr hQ (Or.inr ⟨hw, rfl⟩) hS h
theorem yA (i : Nat) (d : Option Tmp) (v : Value) (hi : ops[i]? = some oi)  (hS : S w) (h : wpAnyH P md ops Q S fuel L A w) (hy : ∀ w, S w -> (execOp a.eval oi).run P w = .ok (.value v) w := by intro w hSw; go_simp) (hL : listed.setIfInBounds i true = L := by first | (simp only [List.setIfInBounds_toArray, List.set_cons_zero, List.set_cons_succ]; rfl) | rfl) (hA : a.put d v = A := by first | (simp only [Act.put, List.setIfInBounds_toArray, List.set_cons_zero, List.set_cons_succ]; rfl) | rfl) (hd : oi.dst = d := by rfl) (hs : Region.noSelect ops = true := by kernel_rfl) (hf : Region.free md ops listed i = true := by kernel_rfl) (hr : (Region.ready md ops listed).contains i = true := by kernel_rfl) (hQ : ∀ c a w, Q (.panic c) (a.put d v) w -> Q (.panic c) a w := by exact fun _ _ _ h => h) (hw : Region.wanted oi (yielded ops a.tmps) = true := by rfl) : wpAnyH P md ops Q S (fuel + 1) listed a w := by
 subst hL hA
 exact zAY i d v hi hd hs hf hr hQ (Or.inl ⟨hw, hy⟩) hS h
theorem yB (i : Nat) (d : Option Tmp) (v : Value) (hi : ops[i]? = some oi)  (hS : S w) (h : wpAnyH P md ops Q S fuel L A w) (hy : ∀ w, S w -> (execOp a.eval oi).run P w = .ok (.value v) w := by rintro w ⟨q1, q2⟩; go_simp) (hL : listed.setIfInBounds i true = L := by first | (simp only [List.setIfInBounds_toArray, List.set_cons_zero, List.set_cons_succ]; rfl) | rfl) (hA : a.put d v = A := by first | (simp only [Act.put, List.setIfInBounds_toArray, List.set_cons_zero, List.set_cons_succ]; rfl) | rfl) (hd : oi.dst = d := by rfl) (hs : Region.noSelect ops = true := by kernel_rfl) (hf : Region.free md ops listed i = true := by kernel_rfl) (hr : (Region.ready md ops listed).contains i = true := by kernel_rfl) (hQ : ∀ c a w, Q (.panic c) (a.put d v) w -> Q (.panic c) a w := by exact fun _ _ _ h => h) (hw : Region.wanted oi (yielded ops a.tmps) = true := by rfl) : wpAnyH P md ops Q S (fuel + 1) listed a w := by
 subst hL hA
 exact zAY i d v hi hd hs hf hr hQ (Or.inl ⟨hw, hy⟩) hS h
theorem yC (i : Nat) (d : Option Tmp) (v : Value) (hi : ops[i]? = some oi)  (hS : S w) (h : wpAnyH P md ops Q S fuel L A w) (hy : ∀ w, S w -> (execOp a.eval oi).run P w = .ok (.value v) w := by rintro w ⟨q1, q2⟩; clear q2; go_simp) (hL : listed.setIfInBounds i true = L := by first | (simp only [List.setIfInBounds_toArray, List.set_cons_zero, List.set_cons_succ]; rfl) | rfl) (hA : a.put d v = A := by first | (simp only [Act.put, List.setIfInBounds_toArray, List.set_cons_zero, List.set_cons_succ]; rfl) | rfl) (hd : oi.dst = d := by rfl) (hs : Region.noSelect ops = true := by kernel_rfl) (hf : Region.free md ops listed i = true := by kernel_rfl) (hr : (Region.ready md ops listed).contains i = true := by kernel_rfl) (hQ : ∀ c a w, Q (.panic c) (a.put d v) w -> Q (.panic c) a w := by exact fun _ _ _ h => h) (hw : Region.wanted oi (yielded ops a.tmps) = true := by rfl) : wpAnyH P md ops Q S (fuel + 1) listed a w := by
 subst hL hA
 exact zAY i d v hi hd hs hf hr hQ (Or.inl ⟨hw, hy⟩) hS h
theorem yD (i : Nat) (d : Option Tmp) (v : Value) (hi : ops[i]? = some oi)  (hS : S w) (h : wpAnyH P md ops Q S fuel L A w) (hy : ∀ w, S w -> (execOp a.eval oi).run P w = .ok (.value v) w := by intro w q1; replace q1 : _ = _ := q1; go_simp) (hL : listed.setIfInBounds i true = L := by first | (simp only [List.setIfInBounds_toArray, List.set_cons_zero, List.set_cons_succ]; rfl) | rfl) (hA : a.put d v = A := by first | (simp only [Act.put, List.setIfInBounds_toArray, List.set_cons_zero, List.set_cons_succ]; rfl) | rfl) (hd : oi.dst = d := by rfl) (hs : Region.noSelect ops = true := by kernel_rfl) (hf : Region.free md ops listed i = true := by kernel_rfl) (hr : (Region.ready md ops listed).contains i = true := by kernel_rfl) (hQ : ∀ c a w, Q (.panic c) (a.put d v) w -> Q (.panic c) a w := by exact fun _ _ _ h => h) (hw : Region.wanted oi (yielded ops a.tmps) = true := by rfl) : wpAnyH P md ops Q S (fuel + 1) listed a w := by
 subst hL hA
 exact zAY i d v hi hd hs hf hr hQ (Or.inl ⟨hw, hy⟩) hS h
end
end Go.Proofs.YtdpnbemagiekoaaGreatDoor
