import Derived.Test.YtdpnbemagiekoaaGreatDoorMe37
namespace Go.Proofs.YtdpnbemagiekoaaGreatDoor
section
open Go.RowKit Go.Maps Go.Sort Go.Shelf
theorem CSz.zmono {w0 w : World} {b jb pb xb mb sb gb : Nat} {Z : Nat -> Prop} {n z : Nat} {op : Bool} {L : List ByteArray} {A : List (Nat × Nat)} {hn : Nat} {Tw T U : Nat -> En} {Bw B : Nat -> Bool} {Dw D : Nat -> ByteArray} (h : CSz w0 w b jb pb xb mb sb gb Z n z op L A hn Tw T U Bw B Dw D) {z' : Nat} (hz : z <= z') : CSz w0 w b jb pb xb mb sb gb Z n z' op L A hn Tw T U Bw B Dw D := by
 obtain ⟨S, eb, bm, Mw, Mn, h1, ⟨h2, h2k, h2t⟩, h3, h4, h5⟩ := h
 obtain ⟨Z1, z1, z2⟩ := h2t
 exact ⟨S, eb, bm, Mw, Mn, h1, ⟨h2, h2k, Z1, Nat.le_trans z1 hz, z2⟩, h3, h4, h5⟩
theorem CSz.saveAny {w0 w : World} {b jb pb xb mb sb gb : Nat} {Z : Nat -> Prop} {z : Nat} {L : List ByteArray} {A : List (Nat × Nat)} {hn : Nat} {Tw T : Nat -> En} {Bw B : Nat -> Bool} {Dw D : Nat -> ByteArray} {e0 e1 e2 : Addr} (h : CSz w0 w b jb pb xb mb sb gb Z 21 z true L A hn Tw T T Bw B Dw D) (hz : z <= 8) (hK : KTab w0) (hs : Snt w0 e0 e1 e2) (c : Nat -> Nat) (hR : Rp T B D c) (k : Nat) (hk : k < 21) (hc : c k <= 65534) (t : ByteArray) (ht : bkB k = t) : Calls Tryz.prog 12 #[.pointer (some ⟨sb, 0, none⟩), .string t] w fun e w' => ∃ d r, e = .returned (.tuple #[.string d, .bool r, .int .i64 0]) /\ (∃ T' B' D', CSz w0 w' b jb pb xb mb sb gb Z 21 (z + 1) true L A hn Tw T' T' Bw B' Dw D' /\ Rp T' B' D' (bmp c k (c k + 1))) /\ Kp Z w w' := by
 subst ht
 have hT := h.ok.1
 by_cases h0 : c k = 0
 ·obtain ⟨p, hl⟩ := hR.free hT hk h0
  refine (h.saveN hz hK hs (bkB k) _ rfl (zDm k) p hl (hR.mis k hk h0)).mono ?_
  rintro e w' ⟨rfl, hC, kp⟩
  exact ⟨_, _, rfl, ⟨_, _, _, hC, by rw [h0]; exact hR.saveN hk h0 hl⟩, kp⟩
 ·obtain ⟨p, hp, hTp, hDp⟩ := hR.hit k hk (by omega)
  refine (h.saveH (by omega) hK hs (bkB k) _ rfl (zDm k) p hp (c k) hc hTp hDp).mono ?_
  rintro e w' ⟨rfl, hC, kp⟩
  exact ⟨_, _, rfl, ⟨_, _, _, hC.zmono (by omega), hR.turn hT hk hTp hDp hp (by omega) (by omega)⟩, kp⟩
theorem CSz.dropAny {w0 w : World} {b jb pb xb mb sb gb : Nat} {Z : Nat -> Prop} {z : Nat} {L : List ByteArray} {A : List (Nat × Nat)} {hn : Nat} {Tw T : Nat -> En} {Bw B : Nat -> Bool} {Dw D : Nat -> ByteArray} {e0 e1 e2 : Addr} (h : CSz w0 w b jb pb xb mb sb gb Z 21 z true L A hn Tw T T Bw B Dw D) (hz : z <= 8) (hs : Snt w0 e0 e1 e2) (c : Nat -> Nat) (hR : Rp T B D c) (k : Nat) (hk : k < 21) (hc : 0 < c k) (d : ByteArray) (hd : dgB (bkB k) = d) : Calls Tryz.prog 20 #[.pointer (some ⟨sb, 0, none⟩), .string d] w fun e w' => ∃ r, e = .returned (.tuple #[.bool r, .int .i64 0]) /\ (∃ T' B' D', CSz w0 w' b jb pb xb mb sb gb Z 21 (z + 1) true L A hn Tw T' T' Bw B' Dw D' /\ Rp T' B' D' (bmp c k (c k - 1))) /\ Kp Z w w' := by
 subst hd
 have hT := h.ok.1
 obtain ⟨p, hp, hTp, hDp⟩ := hR.hit k hk hc
 by_cases h1 : c k = 1
 ·rw [h1] at hTp
  refine (h.dropL (by omega) hs p hp _ hTp (by rw [hR.bit p hp, hTp]; rfl)).mono ?_
  rintro e w' ⟨rfl, hC, kp⟩
  exact ⟨_, rfl, ⟨_, _, _, hC.zmono (by omega), by rw [show c k - 1 = 0 by omega]; exact hR.gone hT hk (by rw [h1]; exact hTp) hp⟩, kp⟩
 ·have := hR.le k
  refine (h.dropM (by omega) hs p hp _ (c k) (by omega) hTp).mono ?_
  rintro e w' ⟨rfl, hC, kp⟩
  exact ⟨_, rfl, ⟨_, _, _, hC.zmono (by omega), hR.turn hT hk hTp hDp hp (by omega) (by omega)⟩, kp⟩
def RwB (w : World) (g : Nat) (l : Nat -> Nat) : Prop := Blk w g ((List.range 21).map fun j => Value.int .i64 (l j : Int)).toArray 3
theorem RwB.rw {w : World} {g : Nat} {l : Nat -> Nat} (h : RwB w g l) : Rw21 w g l := fun j hj => by
 rw [h.cell]
 simp [hj]
theorem RwB.kp {w w' : World} {g : Nat} {l : Nat -> Nat} {Z : Nat -> Prop} (h : RwB w g l) (k : Kp Z w w') (hz : Z g) : RwB w' g l := (k g hz).trans h
theorem RwB.set {w : World} {g : Nat} {l : Nat -> Nat} (h : RwB w g l) (k : Nat) (_hk : k < 21) (v : Nat) : RwB (w.setCell ⟨g, k, none⟩ (.int .i64 (v : Int))) g (bmp l k v) := by
 have := Blk.set h k (.int .i64 (v : Int))
 have e : (((List.range 21).map fun j => Value.int .i64 (l j : Int)).toArray).setIfInBounds k (.int .i64 (v : Int)) = ((List.range 21).map fun j => Value.int .i64 (bmp l k v j : Int)).toArray := by
  apply Array.ext
  ·simp
  ·intro i h1 h2
   simp only [List.setIfInBounds_toArray, List.getElem_toArray, List.getElem_set, List.getElem_map, List.getElem_range]
   by_cases q : k = i
   ·subst q; simp [bmp]
   ·rw [if_neg q, zB1 l v (fun r => q r.symm)]
 rw [e] at this
 exact this
theorem zK5 (w : World) : (Instr.makeSlice 53 (.int .i64 21) (.int .i64 21)).run Tryz.prog w = .ok (.slice (some ⟨w.heap.size, 0, none⟩) 21 21) (w.alloc (.cells ((List.range 21).map fun j => Value.int .i64 ((fun _ => 0 : Nat -> Nat) j : Int)).toArray 3)) := by kernel_rfl
theorem zO4 : (Tryz.prog.info? 3).map (·.size) = some 1 := by kernel_rfl
theorem zOh {w : World} {gn gw : Nat} {l c : Nat -> Nat} (hN : RwB w gn l) (hW : RwB w gw c) (ty : TypeId) :
  ∃ w', (Builtin.copy_ #[53, 53] ty #[.slice (some ⟨gn, 0, none⟩) 21 21, .slice (some ⟨gw, 0, none⟩) 21 21]).run Tryz.prog w = .ok (.int .i64 21) w' /\ RwB w' gn c /\ Only (fun x => x = gn) w w' := by
 have hr := zDB w 53 53 ty 3 1 gn 0 21 21 ⟨gw, 0, none⟩ 21 21 _ 3 ((List.range 21).map fun j => Value.int .i64 (c j : Int)) 21 Tryz.underlying53 zO4 hN rfl (by simp) (fun j v hv => by
  rw [Addr.add_mid, Nat.zero_add, hW.cell]; simpa using hv) (by simp) (fun v hv => by
  obtain ⟨x, _, rfl⟩ := List.mem_map.1 hv
  rfl)
 have e : ((((List.range 21).map fun j => Value.int .i64 (l j : Int)).toArray).toList.take 0 ++ ((List.range 21).map fun j => Value.int .i64 (c j : Int)) ++ (((List.range 21).map fun j => Value.int .i64 (l j : Int)).toArray).toList.drop (0 + ((List.range 21).map fun j => Value.int .i64 (c j : Int)).length)).toArray = ((List.range 21).map fun j => Value.int .i64 (c j : Int)).toArray := by simp
 rw [e] at hr
 exact ⟨_, hr, setRow_heap w gn _ _ 3 (0, 0) hN, zCT w gn _⟩
end
section
open Go.RowKit Go.Maps Go.Sort Go.Shelf
def aT (P : List (Nat × ByteArray)) : List (Nat × Nat) := A0 ++ P.map (fun p => (0, p.1))
theorem zGU (P : List (Nat × ByteArray)) : (aT P).length = 2 + P.length := by rw [aT, List.length_append, List.length_map]; rfl
def layT (P : List (Nat × ByteArray)) : DSt := ⟨L0, layP L0 P, P, aT P, 0, false⟩
theorem zFo (P : List (Nat × ByteArray)) (j : Nat) (t : ByteArray) (h : j < 128) (ht : t.size = 256) : zBk (layT P) (j : Int) t = 0 /\ zAP (layT P) (j : Int) t = layT (P ++ [(j, t)]) := by
 obtain ⟨h1, h2⟩ := zNl (s := layT P) ⟨rfl, rfl⟩ j (by show j < L0.length; rw [zIz]; exact h) _ ht
 refine ⟨h1, ?_⟩
 rw [h2]
 unfold layT aT
 simp only
 rw [zFT, List.map_append, List.append_assoc]
 rfl
theorem zFn (P : List (Nat × ByteArray)) : zCp (layT P) = 0 /\ zBw (layT P) = rs (layP L0 P) (aT P ++ [(1, 0)]) := by
 obtain ⟨h1, h2⟩ := zNj (s := layT P) ⟨rfl, rfl⟩
 exact ⟨h1, by rw [h2]; rfl⟩
theorem DF.write {w0 w : World} {b : Nat} {s : DSt} {X : Nat -> Prop} (h : DF w0 w b s X) (hp : s.pend.length <= 1000000000) (ha : s.acts.length <= 1000000000) (i : Int) (t : ByteArray) :
  Calls Tryz.prog 40 #[.pointer (some ⟨b, 0, none⟩), .int .i64 i, .string t] w fun e w' => e = .returned (.int .i64 (zBk s i t)) /\ DF w0 w' b (zAP s i t) X /\ Only (fun x => ¬ X x) w w' := by
 obtain ⟨v, h1, h2, h3, h4⟩ := h
 refine (zGT w _ b v s h1 h2.size h3 hp ha i t).mono ?_
 rintro e w' ⟨rfl, hP⟩
 exact ⟨rfl, DF.dpost h1 h2 (h3.write i t) h4 hP⟩
theorem zIK (a : Nat) (l : List ByteArray) (m : Nat) : (prN a l m).Pairwise (fun x y => x.1 ≠ y.1) := by
 unfold prN
 refine List.pairwise_map.2 ((List.nodup_range (n := m)).imp (fun h => ?_))
 simp only
 omega
def pt (l k : List ByteArray) (i j : Nat) : List (Nat × ByteArray) := prN 19 l i ++ prN 20 k j
theorem zD3 (l k : List ByteArray) (i j : Nat) : (pt l k i j).length = i + j := by rw [pt, List.length_append, zKo, zKo]
theorem zGf {a : Nat} {l : List ByteArray} {m : Nat} {p : Nat × ByteArray} (h : p ∈ prN a l m) : ∃ i, i < m /\ p = (a + i, l.getD i ByteArray.empty) := by
 obtain ⟨i, hi, rfl⟩ := List.mem_map.1 h
 exact ⟨i, List.mem_range.1 hi, rfl⟩
theorem zLt (l k : List ByteArray) (j : Nat) : (pt l k 1 j).Pairwise (fun x y => x.1 ≠ y.1) := by
 refine List.pairwise_append.2 ⟨zIK _ _ _, zIK _ _ _, fun x hx y hy => ?_⟩
 obtain ⟨i, hi, rfl⟩ := zGf hx
 obtain ⟨q, hq, rfl⟩ := zGf hy
 simp only
 omega
theorem zO7 (l k : List ByteArray) (j : Nat) : (layP L0 (pt l k 1 j)).getD 19 ByteArray.empty = l.getD 0 ByteArray.empty :=
 zHu _ _ _ _ (zLt l k j) (List.mem_append.2 (.inl (List.mem_map.2 ⟨0, List.mem_range.2 (by omega), rfl⟩))) (by rw [zIz]; omega)
theorem pt_at (l k : List ByteArray) (j i : Nat) (hi : i < j) (h : 20 + j <= 128) : (layP L0 (pt l k 1 j)).getD (20 + i) ByteArray.empty = k.getD i ByteArray.empty :=
 zHu _ _ _ _ (zLt l k j) (List.mem_append.2 (.inr (List.mem_map.2 ⟨i, List.mem_range.2 hi, rfl⟩))) (by rw [zIz]; omega)
theorem zM6 {l k : List ByteArray} {i j : Nat} {p : Nat × ByteArray} (h : p ∈ pt l k i j) : 19 <= p.1 /\ ((∃ q, q < i /\ p.2 = l.getD q ByteArray.empty) ∨ ∃ q, q < j /\ p.2 = k.getD q ByteArray.empty) := by
 rcases List.mem_append.1 h with h | h
 ·obtain ⟨q, hq, rfl⟩ := zGf h
  exact ⟨by simp only; omega, .inl ⟨q, hq, rfl⟩⟩
 ·obtain ⟨q, hq, rfl⟩ := zGf h
  exact ⟨by simp only; omega, .inr ⟨q, hq, rfl⟩⟩
theorem zNB (l k : List ByteArray) (i j : Nat) : (layP L0 (pt l k i j)).getD 1 ByteArray.empty = zAq 0 [] := by
 rw [zAw _ _ _ (fun p hp => by have := (zM6 hp).1; omega)]
 exact head0
theorem zIy (m i : Nat) (hm : m <= 1000) (hi : i < m) : ((pgZ m).getD i ByteArray.empty).size = 256 := by
 rw [zNn _ _ hi]
 exact zEl i (by omega) zb zJQ
theorem zGr (m i : Nat) (hm : m <= 1000) (hi : i < m) : ((pgZI m).getD i ByteArray.empty).size = 256 := by
 rw [zKN _ _ hi]
 exact zGb i (by omega) ib0 zIu
set_option maxRecDepth 100000 in
set_option maxHeartbeats 2000000 in
theorem zJh (n : Nat) (hn1 : 1 <= n) (hn2 : n <= 24) (w : World) (hg : ETy w) :
  Calls Tryz.prog 9 #[.int .i64 (n : Int)] w fun e w' => ∃ b jb pb xb mb sb gb L A, e = .returned (.pointer (some ⟨gb, 0, none⟩)) /\ A.length <= 1000 /\ CSt w w' b jb pb xb mb sb gb n 0 false L A 0 (fun _ => none) (fun _ => none) (fun _ => none) (fun _ => false) (fun _ => false) (fun i => L.getD (30 + i) ByteArray.empty) (fun i => L.getD (30 + i) ByteArray.empty) := by
 have HNW := uB (zOR w)
 have HQ := uB (And.intro hn1 (And.intro hn2 hg))
 have hp1 : pgs n = 1 := by unfold pgs; omega
 have hi4 : ipgs n <= 4 := by unfold ipgs; omega
 have HM := uB (fun W => zGW n hn1 (by omega) W)
 have HI := uB (fun W => zGt n hn1 (by omega) W)
 rw [hp1] at HM
 obtain ⟨m, hm⟩ : ∃ q, ipgs n = q := ⟨_, rfl⟩
 rw [hm] at HI hi4
 have HMM := uB hm
 clear hg hn1 hn2 hm
 go_enter Tryz.func9, Tryz.ntmps9
 go_wp2_with fail
 refine (uA HNW).mono ?_
 rintro e x1 ⟨b, rfl, v, h1, h5, h6⟩
 have HF := uB (zJx x1 w.heap.size b v _ h1 h5.size h6 (Nat.zero_le _) (Nat.zero_le _))
 rw [zGK] at HF
 have H1 := uB (And.intro h1 (And.intro h5 h6))
 clear h1 h5 h6 HNW
 go_wp2_with fail
 refine (uA HF).mono ?_
 rintro e x2 ⟨rfl, v2, k1, k2, k3⟩
 have hb2 := DI.only (uA H1).1 (uA H1).2.1 k2
 have hS2 : Sane (rs L0 A0) := by
  have := zAX [(1, zAq 0 [])] _ (uA H1).2.2
  rw [zGK] at this
  exact this
 have X2 := uB (And.intro k1 (And.intro hb2 hS2))
 have HM' := uB (uA HM x2)
 clear k1 k2 k3 hb2 hS2 H1 HF HM
 go_wp2_with fail
 refine (uA HM').mono ?_
 rintro e x3 ⟨u, rfl, hU, hb3⟩
 have hU' : x3.ownsRow x2.heap.size 9 1 u (pgZ 1).length (strs (pgZ 1)) := by rw [zHM]; exact hU
 obtain ⟨pv, cv, rfl, hst⟩ := Strs.ownB hU'
 have HI' := uB (uA HI x3)
 have X3 := uB (And.intro hst hb3)
 clear hU hU' hst hb3 HI HM'
 go_wp2_with fail
 refine (uA HI').mono ?_
 rintro e x4 ⟨u, rfl, hU, hb4⟩
 have hU' : x4.ownsRow x3.heap.size 9 1 u (pgZI m).length (strs (pgZI m)) := by rw [zEa]; exact hU
 obtain ⟨pk, ck, rfl, hst⟩ := Strs.ownB hU'
 obtain ⟨g2, hg2⟩ : ∃ q, x2.heap.size = q := ⟨_, rfl⟩
 obtain ⟨g4, hg4⟩ : ∃ q, x4.heap.size = q := ⟨_, rfl⟩
 have hb24 : Below x2.heap.size x2 x4 := (uA X3).2.trans (hb4.mono (uA X3).2.size)
 have hm1 : 1 <= m := by rw [<- uA HMM]; have := (uA HQ).1; unfold ipgs; omega
 obtain ⟨gv, ov, rfl, v2', v3', v4'⟩ := (uA X3).1 0 (by rw [zHM]; decide)
 obtain ⟨gk, ok, rfl, _, _, _⟩ := hst 0 (by rw [zEa]; exact hm1)
 have HR := uB (show ((g2 <= gv /\ gv < g4) /\ x4.cell? ⟨gv, ov, none⟩ = some (.string ((pgZ 1).getD 0 ByteArray.empty))) /\ (g2 <= gk /\ gk < g4) /\ (∀ j, j < m -> x4.cell? ⟨gk, ok + j, none⟩ = some (.string ((pgZI m).getD j ByteArray.empty))) from ⟨⟨⟨by omega, by have := hb4.size; omega⟩, (hb4.cell (p := ⟨gv, ov, none⟩) v3').trans v4'⟩, ⟨by have := (uA X3).2.size; omega, by omega⟩, fun j hj => by
   obtain ⟨g, oo, q1, q2, q3, q4⟩ := hst j (by rw [zEa]; exact hj)
   cases q1
   exact q4⟩)
 have X4 := uB (show DF w x4 b (layT (pt (pgZ 1) (pgZI m) 0 0)) (fun x => g2 <= x /\ x < g4) /\ Only (fun x => ¬ (g2 <= x /\ x < g4)) x4 x4 from ⟨⟨v2, (uA X2).1.below hb24, (uA X2).2.1.trans (hb24.mono (uA X2).2.1.size), (uA X2).2.2, fun x hx => ⟨fun q => by have := ((uA X2).1.fd x q).2; omega, by omega⟩⟩, Only.refl _ _⟩)
 rw [zHM, zEa]
 clear hU hU' hst hb4 hb24 hg2 hg4 X2 X3 HI' v2' v3' v4' hm1
 go_wp2
 clear hp1
 go_loopw [10] (fun i wr => ∃ k : Nat, k <= 1 /\ i = .int .i64 (k : Int) /\ DF w wr b (layT (pt (pgZ 1) (pgZI m) k 0)) (fun x => g2 <= x /\ x < g4) /\ Only (fun x => ¬ (g2 <= x /\ x < g4)) x4 wr) (fun i _ => 1 - (intOf i).toNat)
 case atStart => exact ⟨0, by omega, rfl, (uA X4).1, (uA X4).2⟩
 case round =>
  obtain ⟨k, hk, rfl, hD, hO⟩ := hrel
  obtain ⟨wo, rfl⟩ : ∃ wo, wo = wr := ⟨_, rfl⟩
  clear X4
  by_cases hkn : k < 1
  ·obtain rfl : k = 0 := by omega
   obtain ⟨hgl, cg⟩ := (uA HR).1
   have cg' : wo.cell? ⟨gv, ov, none⟩ = some (.string ((pgZ 1).getD 0 ByteArray.empty)) := (World.cell?_of_block (a := ⟨gv, ov, none⟩) (hO.2 gv (World.block_lt_of_cell? x4 _ cg) (fun q => q hgl))).trans cg
   have HWR := uB (hD.write (by show (pt (pgZ 1) (pgZI m) 0 0).length <= _; rw [zD3]; decide) (by show (aT (pt (pgZ 1) (pgZI m) 0 0)).length <= _; rw [zGU, zD3]; decide) ((19 : Nat) : Int) ((pgZ 1).getD 0 ByteArray.empty))
   obtain ⟨w1, w2⟩ := zFo (pt (pgZ 1) (pgZI m) 0 0) 19 ((pgZ 1).getD 0 ByteArray.empty) (by omega) (zIy 1 0 (by omega) (by omega))
   rw [w1, w2, show pt (pgZ 1) (pgZI m) 0 0 ++ [(19, (pgZ 1).getD 0 ByteArray.empty)] = pt (pgZ 1) (pgZI m) 1 0 from rfl] at HWR
   have HO := uB hO
   simp only [Int.cast_ofNat_Int] at HWR
   clear hD w1 w2 cg hO hgl
   generalize (pgZ 1).getD 0 ByteArray.empty = t at cg' HWR
   go_wp2_with (go_at_call 40; refine (uA HWR).mono ?_; rintro e y1 ⟨rfl, hD1, hO1⟩)
   go_roundw
   case rel => exact ⟨1, by omega, rfl, hD1, (uA HO).trans hO1 (fun _ _ q => q)⟩
   case measure => simp [intOf]
  ·have hk1 : k = 1 := by omega
   have hkn' : ¬ (k : Int) < 1 := by omega
   have Y0 := uB (show DF w wo b (layT (pt (pgZ 1) (pgZI m) 1 0)) (fun x => g2 <= x /\ x < g4) /\ Only (fun x => ¬ (g2 <= x /\ x < g4)) x4 wo from by rw [hk1] at hD; exact ⟨hD, hO⟩)
   obtain ⟨k0, hk0'⟩ : ∃ q, k = q := ⟨_, rfl⟩
   clear hD hO hkn hk hk1 hk0'
   go_wp2
   go_loopw [11] (fun i wr => ∃ k : Nat, k <= m /\ i = .int .i64 (k : Int) /\ DF w wr b (layT (pt (pgZ 1) (pgZI m) 1 k)) (fun x => g2 <= x /\ x < g4) /\ Only (fun x => ¬ (g2 <= x /\ x < g4)) x4 wr) (fun i _ => m - (intOf i).toNat)
   case atStart => exact ⟨0, by omega, rfl, (uA Y0).1, (uA Y0).2⟩
   case round =>
    obtain ⟨k, hk, rfl, hD, hO⟩ := hrel
    obtain ⟨wp, rfl⟩ : ∃ wp, wp = wr := ⟨_, rfl⟩
    clear Y0
    by_cases hkn : k < m
    ·have hkn' : (k : Int) < (m : Int) := by omega
     have hk0 : (0 : Int) <= (k : Int) := by omega
     have hgl := (uA HR).2.1
     have cg := (uA HR).2.2 k hkn
     have cg' : wp.cell? ⟨gk, ok + k, none⟩ = some (.string ((pgZI m).getD k ByteArray.empty)) := (World.cell?_of_block (a := ⟨gk, ok + k, none⟩) (hO.2 gk (World.block_lt_of_cell? x4 _ cg) (fun q => q hgl))).trans cg
     have HWR := uB (hD.write (by show (pt (pgZ 1) (pgZI m) 1 k).length <= _; rw [zD3]; omega) (by show (aT (pt (pgZ 1) (pgZI m) 1 k)).length <= _; rw [zGU, zD3]; omega) ((20 + k : Nat) : Int) ((pgZI m).getD k ByteArray.empty))
     obtain ⟨w1, w2⟩ := zFo (pt (pgZ 1) (pgZI m) 1 k) (20 + k) ((pgZI m).getD k ByteArray.empty) (by omega) (zGr m k (by omega) hkn)
     rw [w1, w2, show pt (pgZ 1) (pgZI m) 1 k ++ [(20 + k, (pgZI m).getD k ByteArray.empty)] = pt (pgZ 1) (pgZI m) 1 (k + 1) from by rw [pt, pt, List.append_assoc, zLT 20]] at HWR
     have e1 : (20 : Int) + (k : Int) = ((20 + k : Nat) : Int) := by omega
     have hq : 20 + k <= 1000 := by omega
     have HO := uB hO
     clear hD w1 w2 cg hO hgl
     generalize 20 + k = ak at *
     generalize (pgZI m).getD k ByteArray.empty = t at cg' HWR
     go_wp2_with (go_at_call 40; refine (uA HWR).mono ?_; rintro e y1 ⟨rfl, hD1, hO1⟩)
     go_roundw
     case rel => exact ⟨k + 1, by omega, by go_num, hD1, (uA HO).trans hO1 (fun _ _ q => q)⟩
     case measure => simp [intOf]; omega
    ·have hkn' : ¬ (k : Int) < (m : Int) := by omega
     have hke : m = k := by omega
     have hD' := hD.di
     have HFL := uB (zO3 hD' (by show (pt (pgZ 1) (pgZI m) 1 k).length <= _; rw [zD3]; omega) (by show (aT (pt (pgZ 1) (pgZI m) 1 k)).length <= _; rw [zGU, zD3]; omega))
     rw [(zFn _).1, (zFn _).2] at HFL
     have HKE := uB hke
     clear hD hD' hO hke
     go_wp2_with fail
     refine (uA HFL).mono ?_
     rintro e y1 ⟨rfl, vd, d1, d2, d3⟩
     obtain ⟨hn1, hn2, hgw⟩ := uA HQ
     have hmk : ipgs n = k := (uA HMM).trans (uA HKE)
     have hke := uA HKE
     have HP := uB (zJe (n := n) (T := fun _ => none) (B := fun _ => false) d1 d2 hgw d3 0 (by decide) (by rw [zAp, zIz]) (zA4 _ _ zNM (fun p hp => by
       rcases (zM6 hp).2 with ⟨q, hq, e⟩ | ⟨q, hq, e⟩
       ·rw [e]; exact zIy 1 q (by omega) hq
       ·rw [e]; exact zGr m q (by omega) (by omega))) (zNB _ _ _ _) (by rw [List.length_append, zGU, zD3]; simp only [List.length_cons, List.length_nil]; omega) (fun q hq => by
       rw [pt_at _ _ k q (by omega) (by omega), zKN _ _ (by omega), zN0]) (TOk.zero n) (fun q hq => by
       obtain rfl : q = 0 := by unfold pgs at hq; omega
       refine ⟨zb, zJQ, ?_, fun j _ => by rw [zOO]; simp⟩
       rw [show (19 + 0 : Nat) = 19 from rfl, zO7, zNn _ _ (by omega)]) hn1 hn2)
     have hAl : (aT (pt (pgZ 1) (pgZI m) 1 k) ++ [(1, 0)]).length <= 1000 := by rw [List.length_append, zGU, zD3]; simp only [List.length_cons, List.length_nil]; omega
     have HAL := uB hAl
     clear d1 d2 d3 hn1 hn2 hgw hmk hAl hke HFL
     go_wp2_with (go_at_call 28; refine (uA HP).mono ?_; rintro e y2 ⟨jb, pb, xb, mb, sb, gb, rfl, hC⟩)
     go_ret
     exact ⟨b, jb, pb, xb, mb, sb, gb, _, _, rfl, uA HAL, hC⟩
end
end Go.Proofs.YtdpnbemagiekoaaGreatDoor
