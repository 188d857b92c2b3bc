import Derived.Test.YtdpnbemagiekoaaGreatDoorMe38
import Derived.Deep.DeepCutAuto
import Derived.Deep.AppendLies
namespace Go.Proofs.YtdpnbemagiekoaaGreatDoor
open List renaming getElem_toArray -> lD, getElem_cons_succ -> lE, getElem_cons_zero -> lF
section
open Go.RowKit Go.Maps Go.Sort Go.Shelf
theorem CSt.toZ {w0 w : World} {b jb pb xb mb sb gb n z : Nat} {op : Bool} {L : List ByteArray} {A : List (Nat × Nat)} {hn : Nat} {Tw T U : Nat -> En} {Bw B : Nat -> Bool} {Dw D : Nat -> ByteArray} (h : CSt w0 w b jb pb xb mb sb gb n z op L A hn Tw T U Bw B Dw D) : CSz w0 w b jb pb xb mb sb gb (fun _ => False) n z op L A hn Tw T U Bw B Dw D := by
 obtain ⟨S, eb, bm, Mw, Mn, h1, h2⟩ := h
 exact ⟨S, eb, bm, Mw, Mn, h1.more (Z := Yz mb sb gb (fun _ => False)) (Below.refl _ _) (fun x q => by
  rcases q with q | q | q | q
  ·exact .inl (.inl q)
  ·exact .inl (.inr (.inl q))
  ·exact .inl (.inr (.inr q))
  ·exact absurd q (fun q => q)) (.inl rfl) (.inr (.inl rfl)), h2⟩
theorem CSz.bl {w0 w : World} {b jb pb xb mb sb gb : Nat} {Z : Nat -> Prop} {n z : Nat} {op : Bool} {L : List ByteArray} {A : List (Nat × Nat)} {hn : Nat} {Tw T U : Nat -> En} {Bw B : Nat -> Bool} {Dw D : Nat -> ByteArray} (h : CSz w0 w b jb pb xb mb sb gb Z n z op L A hn Tw T U Bw B Dw D) : mb < w.heap.size /\ sb < w.heap.size /\ gb < w.heap.size := by
 obtain ⟨S, eb, bm, Mw, Mn, h1, h2⟩ := h
 exact ⟨h1.ig.pk.lt mb (.inl (.inl rfl)), h1.ig.pk.lt sb (.inl (.inr (.inl rfl))), h1.ig.pk.lt gb (.inl (.inr (.inr (.inl rfl))))⟩
theorem CSz.box {w0 w : World} {b jb pb xb mb sb gb : Nat} {Z : Nat -> Prop} {n z : Nat} {op : Bool} {L : List ByteArray} {A : List (Nat × Nat)} {hn : Nat} {Tw T U : Nat -> En} {Bw B : Nat -> Bool} {Dw D : Nat -> ByteArray} (h : CSz w0 w b jb pb xb mb sb gb Z n z op L A hn Tw T U Bw B Dw D) : Blk w gb (Pcl b pb mb xb sb) 32 := by
 obtain ⟨S, eb, bm, Mw, Mn, h1, h2, h3, h4, h5⟩ := h
 exact h5
theorem ArmI.commitC {w0 w : World} {b jb pb : Nat} {X : Nat -> Prop} {a n h : Nat} {O : List ByteArray} {A : List (Nat × Nat)} {f : Nat} {tx : Tx} {Tw T : Nat -> En} (hh : ArmI w0 w b jb pb X a n h O A f tx Tw T) (hf : f <= 1000) (ha : A.length <= 10000) :
  Calls Tryz.prog 16 #[.pointer (some ⟨pb, 0, none⟩)] w fun e w' => ∃ (er : Int) (s' : DSt), e = .returned (.int .i64 er) /\ (er = 0 ∨ er = 2) /\ DF w0 w' b s' X /\ Only (fun x => ¬ X x) w w' /\ s'.pend.length <= 16 /\ Crashed (StAv h ((h + 1) % 4294967296) O tx (decide (er = 0))) s' := by
 obtain ⟨S, K, hs, hnx, hjl, hlost, ho, htx, hG, hSt, hw, ht⟩ := hh
 subst htx
 obtain ⟨ce, s3, ee, es, hce, hp3, ha3, hcr⟩ := zHY (S := S) (O := O) (A := A) (f := f) hs hnx hjl hlost ho hSt hG (by omega)
 refine (zER K (by rw [hnx]; exact Nat.mod_lt _ (by decide)) (by rw [hs]; exact Nat.zero_le _) (by rw [hs]; show A.length <= _; omega)).mono ?_
 rintro e w' ⟨rfl, K', hO⟩
 have hdf := K'.df
 rw [es] at hdf
 exact ⟨ce, s3, by rw [ee], hce, hdf, hO, hp3, hcr⟩
theorem zOM {w0 w : World} {b : Nat} {L : List ByteArray} {A : List (Nat × Nat)} {X : Nat -> Prop} (h : DF w0 w b (rs L A) X) (hL : L.length = 128) : Calls Tryz.prog 34 #[.pointer (some ⟨b, 0, none⟩)] w fun e w' => ∃ g cap, e = .returned (.slice (some ⟨g, 0, none⟩) 128 cap) /\ Strs w' (some ⟨g, 0, none⟩) L /\ Below w.heap.size w w' := by
 obtain ⟨v, h1, _, _, _⟩ := h
 refine (zK3 w _ b v _ h1 (by show 0 < L.length; omega) (by show L.length <= _; omega)).mono ?_
 rintro e w' ⟨v', rfl, hr, hb⟩
 obtain ⟨g, cap, e, hg1, hg2⟩ := hr.form (by show 0 < L.length; omega)
 obtain ⟨p', c', e2, hs⟩ := Strs.own hr
 rw [e] at e2
 simp at e2
 obtain ⟨rfl, rfl⟩ := e2
 exact ⟨g, cap, by rw [e]; show _ = Ending.returned (.slice _ 128 _); rw [show (rs L A).last.length = 128 from hL], hs, hb⟩
def A1 (w0 : World) (b jb pb xb mb sb gb gw k : Nat) (wr : World) : Prop :=
 ∃ L A hn T B D c, A.length <= 1000 + 38 * k /\ (∀ j, c j <= k) /\ CSz w0 wr b jb pb xb mb sb gb (fun x => x = gw) 21 0 false L A hn T T T B B D D /\ Rp T B D c /\ RwB wr gw c
def A2 (w0 : World) (b jb pb xb mb sb gb gw gn : Nat) (L : List ByteArray) (A : List (Nat × Nat)) (hn : Nat) (T0 : Nat -> En) (B0 : Nat -> Bool) (D0 : Nat -> ByteArray) (c0 : Nat -> Nat) (q : Nat) (wr : World) : Prop :=
 ∃ T B D c z, z <= q /\ (∀ j, c j <= 20 + q) /\ CSz w0 wr b jb pb xb mb sb gb (fun x => x = gw ∨ x = gn) 21 z true L A hn T0 T T B0 B D0 D /\ Rp T B D c /\ RwB wr gn c /\ RwB wr gw c0
set_option maxRecDepth 100000 in
set_option maxHeartbeats 8000000 in
theorem zHa {e0 e1 e2 : Addr} (p1 : Option Addr) (c1 : Nat) (l1 : List Int) (m1 : Nat) (hm1 : m1 = l1.length) (hz1 : m1 <= 9223372036854775807) (p2 : Option Addr) (c2 : Nat) (l2 : List Int) (m2 : Nat) (hm2 : m2 = l2.length) (hz2 : m2 <= 9223372036854775807) (arm : Int) (har : I64 arm) (p4 : Option Addr) (c4 : Nat) (l4 : List Int) (m4 : Nat) (hm4 : m4 = l4.length) (_hz4 : m4 <= 9223372036854775807) (sl4 : m4 <= 17592186044415) (w : World) (hg : ETy w) (hK : KTab w) (hs : Snt w e0 e1 e2) (hl1 : Ints w p1 l1) (hl2 : Ints w p2 l2) (hl4 : Ints w p4 l4) (hw1 : ∀ i, I64 (l1.getD i 0)) (hw2 : ∀ i, I64 (l2.getD i 0)) (hw4 : ∀ i, I64 (l4.getD i 0)) :
  Calls Tryz.prog 6 #[.slice p1 m1 c1, .slice p2 m2 c2, .int .i64 arm, .slice p4 m4 c4] w fun e w' => e = .returned (.bool true) /\ Below w.heap.size w w' := by
 have HFR := uB (zJh 21 (by decide) (by decide) w hg)
 simp only [Int.cast_ofNat_Int] at HFR
 have HQ := uB (And.intro hg (And.intro hK hs))
 have HA1 := uB (And.intro hm1 (And.intro hl1 hw1))
 have HA2 := uB (And.intro hm2 (And.intro hl2 hw2))
 have HA4 := uB (And.intro hm4 (And.intro hl4 hw4))
 have HAR := uB har
 clear hg hK hs hm1 hl1 hw1 hm2 hl2 hw2 hm4 hl4 hw4 har
 go_enter Tryz.func6, Tryz.ntmps6
 go_wp2_with fail
 refine (uA HFR).mono ?_
 rintro e x0 ⟨b, jb, pb, xb, mb, sb, gb, L, A, rfl, hA, hC0⟩
 have hC := hC0.toZ
 obtain ⟨gw, hgw⟩ : ∃ q, x0.heap.size = q := ⟨_, rfl⟩
 obtain ⟨x1, hx1⟩ : ∃ q, x0.alloc (.cells ((List.range 21).map fun j => Value.int .i64 ((fun _ => 0 : Nat -> Nat) j : Int)).toArray 3) = q := ⟨_, rfl⟩
 have hmk := zK5 x0
 rw [hx1, hgw] at hmk
 have hb1 : Below x0.heap.size x0 x1 := by rw [<- hx1]; exact (Below.refl _ _).alloc (Nat.le_refl _) _
 have hW1 : RwB x1 gw (fun _ => 0) := by rw [<- hx1, <- hgw]; exact Blk.new x0 _ _
 have hC1 := hC.more (Z' := fun x => x = gw) hb1 (fun x q => by rw [q, <- hgw]; exact .inr ⟨Nat.le_refl _, by rw [hgw]; exact hW1.lt⟩)
 have HGW := uB (show gw ≠ mb /\ gw ≠ sb /\ gw ≠ gb /\ w.heap.size <= gw from by
  have h1 := hC.bl
  have h2 := hC.bel.size
  omega)
 have X1 := uB (show A1 w b jb pb xb mb sb gb gw 0 x1 from ⟨_, _, _, _, _, _, _, by omega, fun _ => Nat.zero_le _, hC1, zOz _, hW1⟩)
 clear hA hC0 hC hb1 hW1 hC1 hx1 hgw HFR
 go_wp2
 clear hmk
 go_loopw [11, 12, 13, 14, 15, 16, 17] (fun i _ _ _ _ _ _ wr => ∃ k : Nat, k <= m1 /\ k <= 20 /\ i = .int .i64 (k : Int) /\ A1 w b jb pb xb mb sb gb gw k wr) (fun i _ _ _ _ _ _ _ => m1 - (intOf i).toNat)
 case atStart => exact ⟨0, by omega, by omega, rfl, uA X1⟩
 case round =>
  obtain ⟨k, hk, hk20, rfl, hGI⟩ := hrel
  obtain ⟨wo, rfl⟩ : ∃ wo, wo = wr := ⟨_, rfl⟩
  have HGI := uB hGI
  clear X1 hGI
  obtain ⟨cb, hcb⟩ : ∃ cb : Bool, decide (k < m1 /\ k < 20) = cb := ⟨_, rfl⟩
  have HCB := uB hcb
  clear hcb
  go_upto_region 6 with fail
  go_cut [44] (fun c wx => c = .bool cb /\ wx = wo)
  case first =>
   by_cases g1 : k < m1
   ·have g1d : decide ((k : Int) < (m1 : Int)) = true := decide_eq_true (by omega)
    by_cases g2 : k < 20
    ·have g2d : decide ((k : Int) < 20) = true := decide_eq_true (by omega)
     go_wp2_with fail
     go_meet
     exact ⟨congrArg Value.bool (by rw [<- uA HCB]; exact (decide_eq_true ⟨g1, g2⟩).symm), rfl⟩
    ·have g2d : decide ((k : Int) < 20) = false := decide_eq_false (by omega)
     go_wp2_with fail
     go_meet
     exact ⟨congrArg Value.bool (by rw [<- uA HCB]; exact (decide_eq_false (fun r => g2 r.2)).symm), rfl⟩
   ·have g1d : decide ((k : Int) < (m1 : Int)) = false := decide_eq_false (by omega)
    go_wp2_with fail
    go_meet
    exact ⟨congrArg Value.bool (by rw [<- uA HCB]; exact (decide_eq_false (fun r => g1 r.1)).symm), rfl⟩
  case rest =>
  obtain ⟨rfl, hwc⟩ := hcut
  subst wc
  cases cb with
  | true =>
   have hkn := of_decide_eq_true (uA HCB)
   have k0 : (0 : Int) <= (k : Int) := by omega
   have k1 : (k : Int) < (m1 : Int) := by omega
   obtain ⟨L', A', hn', T, B, D, c, hA', hc, hC, hR, hW⟩ := uA HGI
   obtain ⟨gl, ol, rfl, hgl, hcl⟩ := (uA HA1).2.1 k (by have := (uA HA1).1; omega)
   have hcl' : wo.cell? ⟨gl, ol + k, none⟩ = some (.int .i64 (l1.getD k 0)) := (hC.bel.cell (p := ⟨gl, ol + k, none⟩) hgl).trans hcl
   have HBE := uB hC.begin
   have HPK := uB (fun W => zCq (l1.getD k 0) 21 (by decide) ((uA HA1).2.2 k) 21 rfl W)
   have hnl := zEn (l1.getD k 0) 21 (by decide)
   generalize hz : l1.getD k 0 = z at *
   obtain ⟨n, hn⟩ : ∃ r, zC3 z 21 = r := ⟨_, rfl⟩
   rw [hn] at HPK hnl
   have HBK := uB (fun W => zDK n hnl W)
   obtain ⟨t, ht⟩ : ∃ r, bkB n = r := ⟨_, rfl⟩
   rw [ht] at HBK
   obtain ⟨k0', k1', k2', k3', k4'⟩ := hC.c
   have XC := uB (And.intro hA' (And.intro hc (And.intro hR (And.intro hW (And.intro ht hgl)))))
   have HCL := uB (show ∀ W, Below w.heap.size w W -> W.cell? ⟨gl, ol + k, none⟩ = some (.int .i64 z) from fun W hW => (hW.cell (p := ⟨gl, ol + k, none⟩) hgl).trans hcl)
   clear hA' hc hC hR hW hgl hcl hcl' hn ht hz HCB HGI
   go_wp2_with fail
   refine (uA HBE).mono ?_
   rintro e y1 ⟨rfl, hC1, p1'⟩
   have q1 := uA HCL y1 hC1.bel
   obtain ⟨a0, a1, a2, a3, a4⟩ := hC1.c
   have hC1d := (hC1.below ((Below.refl _ y1).drew)).1
   have X2 := uB (And.intro hC1d (p1'.trans (fun _ _ => rfl) : Kp (fun x => x = gw) wo y1.drew))
   clear hC1 p1' hC1d HBE k0' k1' k2' k3' k4'
   go_wp2_with (go_at_call 21; refine (uA HPK _).mono ?_; rintro e w' ⟨rfl, hw'⟩; subst w')
   clear q1
   refine wp_region_held_drew (S := fun w' => w'.cell? ⟨gb, 4, none⟩ = some (.pointer (some ⟨sb, 0, none⟩))) (by kernel_rfl) a4 ?_
   intro hS
   refine yL 0 (some 58) (.pointer (some ⟨gb, 0, none⟩)) rfl (fun w hSw => by have q1 : _ = _ := hSw; go_simp) hS ?_
   refine yL 1 (some 59) (.pointer (some ⟨gb, 0, none⟩)) rfl (fun w hSw => by have q1 : _ = _ := hSw; go_simp) hS ?_
   refine yL 2 (some 60) (.pointer (some ⟨gb, 4, none⟩)) rfl (fun w hSw => by have q1 : _ = _ := hSw; go_simp) hS ?_
   refine yL 3 (some 61) (.pointer (some ⟨sb, 0, none⟩)) rfl (fun w hSw => by have q1 : _ = _ := hSw; go_simp) hS ?_
   refine yL 4 (some 62) (.int .i64 (n : Int)) rfl (fun w hSw => by have q1 : _ = _ := hSw; go_simp) hS ?_
   refine wpAnyH_ready (rs := [5]) (by kernel_rfl) (by simp) ?_
   refine AllReadyH.cons rfl (fun K hK => ?_) AllReadyH.nil
   simp only [lD, lE, lF]
   go_simp
   refine (uA HBK _).mono ?_
   rintro e y2 ⟨rfl, hb2⟩
   obtain ⟨hC1, p1w⟩ := uA X2
   obtain ⟨hC2, p2w⟩ := hC1.below hb2
   obtain ⟨b0, b1, b2, b3, b4⟩ := hC2.c
   have HSA := uB (hC2.saveAny (by decide) (uA HQ).2.1 (uA HQ).2.2 c (uA XC).2.2.1 n hnl (by have := (uA XC).2.1 n; omega) t (uA XC).2.2.2.2.1)
   have X3 := uB (p1w.trans p2w)
   clear hC1 p1w hC2 p2w hb2 X2
   refine hK.out _ _ b4 (fun hS => ?_)
   clear hK K
   refine wpAnyH_ready (rs := [6]) (by kernel_rfl) (by simp) ?_
   refine AllReadyH.cons rfl (fun K hK => ?_) AllReadyH.nil
   simp only [lD, lE, lF]
   go_simp
   refine (uA HSA).mono ?_
   rintro e y3 ⟨d, r, rfl, ⟨T', B', D', hC3, hR3⟩, p3w⟩
   obtain ⟨d0, d1, d2, d3, d4⟩ := hC3.c
   have X4 := uB (And.intro hC3 (And.intro hR3 ((uA X3).trans p3w)))
   clear hC3 hR3 p3w HSA X3
   refine hK.out _ _ d4 (fun hS => ?_)
   clear hK K
   refine yL 7 (some 57) (.tuple #[.string d, .bool r, .int .i64 0]) rfl (fun w hSw => by have q1 : _ = _ := hSw; go_simp) hS ?_
   refine yL 8 (some 65) (.string d) rfl (fun w hSw => by have q1 : _ = _ := hSw; go_simp) hS ?_
   refine yL 9 (some 66) (.bool r) rfl (fun w hSw => by have q1 : _ = _ := hSw; go_simp) hS ?_
   refine yL 10 (some 67) (.int .i64 0) rfl (fun w hSw => by have q1 : _ = _ := hSw; go_simp) hS ?_
   refine yL 11 (some 14) (.string d) rfl (fun w hSw => by have q1 : _ = _ := hSw; go_simp) hS ?_
   refine yL 12 (some 15) (.bool r) rfl (fun w hSw => by have q1 : _ = _ := hSw; go_simp) hS ?_
   refine yL 13 (some 16) (.int .i64 0) rfl (fun w hSw => by have q1 : _ = _ := hSw; go_simp) hS ?_
   refine wpAnyH_done (by kernel_rfl) ?_ _
   clear hS a0 a1 a2 a3 a4 b0 b1 b2 b3 b4
   have HCM := uB ((uA X4).1.commit (by have := (uA XC).1; omega))
   go_wp2_with fail
   refine (uA HCM).mono ?_
   rintro e y4 ⟨rfl, ⟨L2, A2, hA2, hC4⟩, p4w⟩
   have hW4 : RwB y4 gw c := (uA XC).2.2.2.1.kp ((uA X4).2.2.trans p4w) rfl
   have r4 := hW4.rw n hnl
   have f4 := Blk.frozen hW4 n
   have hcn := (uA XC).2.1 n
   obtain ⟨cn, hcn'⟩ : ∃ q, c n = q := ⟨_, rfl⟩
   rw [hcn'] at r4 hcn
   have hcn5 : cn <= 20 := by omega
   have hn0 : (0 : Int) <= (n : Int) := by omega
   have hn1 : (n : Int) < 21 := by omega
   have e5 : (cn : Int) + 1 = ((cn + 1 : Nat) : Int) := by omega
   have O5 : Only (fun x => x = gw) y4 (y4.setCell ⟨gw, n, none⟩ (.int .i64 ((cn + 1 : Nat) : Int))) := (Only.refl _ y4).setCell _ _ (fun _ => rfl)
   have X5 := uB (show A1 w b jb pb xb mb sb gb gw (k + 1) (y4.setCell ⟨gw, n, none⟩ (.int .i64 ((cn + 1 : Nat) : Int))) from ⟨L2, A2, _, T', B', D', bmp c n (c n + 1), by have := (uA XC).1; omega, fun j => by
    have := (uA XC).2.1 j
    unfold bmp
    split <;> omega, hC4.poke O5 rfl (uA HGW).2.2.2 ⟨(uA HGW).1, (uA HGW).2.1, (uA HGW).2.2.1⟩, (uA X4).2.1, by rw [hcn']; exact hW4.set n hnl (cn + 1)⟩)
   clear hC4 p4w hW4 hA2 hcn hcn' O5 HCM X4 XC HCL
   generalize cn + 1 = cm at *
   go_wp2
   go_roundw
   case rel => exact ⟨k + 1, by omega, by omega, by go_num, uA X5⟩
   case measure => simp [intOf]; omega
  | false =>
   obtain ⟨L1, A1', hn1, T0, B0, D0, c0, hA1, hc0, hC, hR, hW⟩ := uA HGI
   obtain ⟨gn, hgn⟩ : ∃ q, wo.heap.size = q := ⟨_, rfl⟩
   obtain ⟨y1, hy1⟩ : ∃ q, wo.alloc (.cells ((List.range 21).map fun j => Value.int .i64 ((fun _ => 0 : Nat -> Nat) j : Int)).toArray 3) = q := ⟨_, rfl⟩
   have hmk := zK5 wo
   rw [hy1, hgn] at hmk
   have hb1 : Below wo.heap.size wo y1 := by rw [<- hy1]; exact (Below.refl _ _).alloc (Nat.le_refl _) _
   have hN1 : RwB y1 gn (fun _ => 0) := by rw [<- hy1, <- hgn]; exact Blk.new wo _ _
   have hgl := hC.zlt gw rfl
   have hC1 := hC.more (Z' := fun x => x = gw ∨ x = gn) hb1 (fun x q => q.imp_right (fun e => by rw [e, <- hgn]; exact ⟨Nat.le_refl _, by rw [hgn]; exact hN1.lt⟩))
   have hW1 : RwB y1 gw c0 := hW.kp (Z := fun x => x = gw) (fun x hx => hb1.block x (by rw [hx]; exact hgl)) rfl
   obtain ⟨y2, hcp, hN2, hO2⟩ := zOh hN1 hW1 0
   have hne : gn ≠ mb /\ gn ≠ sb /\ gn ≠ gb /\ w.heap.size <= gn /\ gw ≠ gn := by
    have h1 := hC.bl
    have h2 := hC.bel.size
    omega
   have hC2 := hC1.poke hO2 (.inr rfl) hne.2.2.2.1 ⟨hne.1, hne.2.1, hne.2.2.1⟩
   have hW2 : RwB y2 gw c0 := hW1.only hO2 (fun q => hne.2.2.2.2 q)
   have HBE := uB hC2.begin
   have HGN := uB hne
   have X2 := uB (And.intro hN2 (And.intro hW2 (And.intro hA1 (And.intro hc0 hR))))
   obtain ⟨k0, k1, k2, k3, k4⟩ := hC2.c
   clear hA1 hc0 hC hR hW hgn hy1 hb1 hN1 hgl hC1 hW1 hN2 hO2 hne hC2 hW2 HGI HCB HA1
   have hcp' : ∀ ty, (Builtin.copy_ #[53, 53] ty #[.slice (some ⟨gn, 0, none⟩) 21 21, .slice (some ⟨gw, 0, none⟩) 21 21]).run Tryz.prog y1 = .ok (.int .i64 21) y2 := fun ty => hcp
   clear hcp
   go_wp2_with fail
   refine (uA HBE).mono ?_
   rintro e y3 ⟨rfl, hC3, p3⟩
   have X3 := uB (show A2 w b jb pb xb mb sb gb gw gn L1 A1' hn1 T0 B0 D0 c0 0 y3 from ⟨T0, B0, D0, c0, 0, Nat.le_refl _, fun j => by have := (uA X2).2.2.2.1 j; omega, hC3, (uA X2).2.2.2.2, (uA X2).1.kp p3 (.inr rfl), (uA X2).2.1.kp p3 (.inl rfl)⟩)
   have HX2 := uB (And.intro (uA X2).2.2.1 (And.intro (uA X2).2.2.2.1 (uA X2).2.2.2.2))
   clear hC3 p3 HBE X2 hmk hcp' k0 k1 k2 k3 k4
   go_wp2
   go_loopw [19, 20, 21, 22, 23] (fun ev i _ _ _ wr => ∃ q : Nat, q <= m2 /\ q <= 6 /\ ev = .int .i64 0 /\ i = .int .i64 (q : Int) /\ A2 w b jb pb xb mb sb gb gw gn L1 A1' hn1 T0 B0 D0 c0 q wr) (fun _ i _ _ _ _ => m2 - (intOf i).toNat)
   case atStart => exact ⟨0, by omega, by omega, rfl, rfl, uA X3⟩
   case round =>
    obtain ⟨q, hq, hq6, rfl, rfl, hGI⟩ := hrel
    obtain ⟨wq, rfl⟩ : ∃ wq, wq = wr := ⟨_, rfl⟩
    have HGI := uB hGI
    clear X3 hGI
    obtain ⟨cb, hcb⟩ : ∃ cb : Bool, decide (q < m2 /\ q < 6) = cb := ⟨_, rfl⟩
    have HCB := uB hcb
    clear hcb
    go_upto_region 19 with fail
    go_cut [109] (fun c wx => c = .bool cb /\ wx = wq)
    case first =>
     by_cases g1 : q < m2
     ·have g1d : decide ((q : Int) < (m2 : Int)) = true := decide_eq_true (by omega)
      by_cases g2 : q < 6
      ·have g2d : decide ((q : Int) < 6) = true := decide_eq_true (by omega)
       go_wp2_with fail
       go_meet
       exact ⟨congrArg Value.bool (by rw [<- uA HCB]; exact (decide_eq_true ⟨g1, g2⟩).symm), rfl⟩
      ·have g2d : decide ((q : Int) < 6) = false := decide_eq_false (by omega)
       go_wp2_with fail
       go_meet
       exact ⟨congrArg Value.bool (by rw [<- uA HCB]; exact (decide_eq_false (fun r => g2 r.2)).symm), rfl⟩
     ·have g1d : decide ((q : Int) < (m2 : Int)) = false := decide_eq_false (by omega)
      go_wp2_with fail
      go_meet
      exact ⟨congrArg Value.bool (by rw [<- uA HCB]; exact (decide_eq_false (fun r => g1 r.1)).symm), rfl⟩
    case rest =>
    obtain ⟨rfl, hwc⟩ := hcut
    subst wc
    cases cb with
    | true =>
     have hkn := of_decide_eq_true (uA HCB)
     have q0 : (0 : Int) <= (q : Int) := by omega
     have q1 : (q : Int) < (m2 : Int) := by omega
     obtain ⟨T, B, D, c, z, hz, hc, hC, hR, hN, hW⟩ := uA HGI
     obtain ⟨gl, ol, rfl, hgl, hcl⟩ := (uA HA2).2.1 q (by have := (uA HA2).1; omega)
     have hcl' : wq.cell? ⟨gl, ol + q, none⟩ = some (.int .i64 (l2.getD q 0)) := (hC.bel.cell (p := ⟨gl, ol + q, none⟩) hgl).trans hcl
     have HPK := uB (fun W => zCq (l2.getD q 0) 21 (by decide) ((uA HA2).2.2 q) 21 rfl W)
     have hnl := zEn (l2.getD q 0) 21 (by decide)
     generalize l2.getD q 0 = x at *
     obtain ⟨n, hn⟩ : ∃ r, zC3 x 21 = r := ⟨_, rfl⟩
     rw [hn] at HPK hnl
     have HBK := uB (fun W => zDK n hnl W)
     have HBD := uB (fun W (hW : KTab W) => zBK (bkB n) (zDm n) W hW)
     obtain ⟨t, ht⟩ : ∃ r, bkB n = r := ⟨_, rfl⟩
     obtain ⟨d, hd⟩ : ∃ r, dgB t = r := ⟨_, rfl⟩
     rw [ht] at HBK
     rw [ht, hd] at HBD
     obtain ⟨k0, k1, k2, k3, k4⟩ := hC.c
     have r4 := hN.rw n hnl
     have f4 := Blk.frozen hN n
     obtain ⟨cn, hcn'⟩ : ∃ r, c n = r := ⟨_, rfl⟩
     rw [hcn'] at r4
     have hcn5 : cn <= 26 := by rw [<- hcn']; have := hc n; omega
     have hn0 : (0 : Int) <= (n : Int) := by omega
     have hn1' : (n : Int) < 21 := by omega
     have XC := uB (And.intro hz (And.intro hc (And.intro hC (And.intro hR (And.intro hN (And.intro hW (And.intro ht (And.intro hd hcn'))))))))
     clear hz hc hC hR hN hW hgl hcl hn ht hd hcn' HCB HGI
     by_cases hdr : (x.tmod 3 == 0) = true /\ 0 < cn
     ·have hrb := hdr.1
      have hcp : (0 : Int) < (cn : Int) := by omega
      have hcp' := hdr.2
      clear hdr
      go_wp2_with (go_at_call 21; refine (uA HPK _).mono ?_; rintro e w' ⟨rfl, hw'⟩; subst w')
      refine (uA HBK _).mono ?_
      rintro e y1 ⟨rfl, hb1⟩
      obtain ⟨hz, hc, hC, hR, hN, hW, ht, hd, hcn'⟩ := uA XC
      obtain ⟨hC1, p1'⟩ := hC.below hb1
      have HDG := uB (uA HBD y1 ((uA HQ).2.1.below hC1.bel (uA HQ).2.1.1))
      have X4 := uB (And.intro hC1 p1')
      clear hz hc hC hR hN hW ht hd hcn' hC1 p1' hb1 hrb
      go_wp2_with fail
      refine (uA HDG).mono ?_
      rintro e y2 ⟨rfl, hb2⟩
      obtain ⟨hz, hc, hC, hR, hN, hW, ht, hd, hcn'⟩ := uA XC
      obtain ⟨hC2, p2'⟩ := (uA X4).1.below hb2
      have HDR := uB (hC2.dropAny (by omega) (uA HQ).2.2 c hR n hnl (by rw [hcn']; exact hcp') d (by rw [ht]; exact hd))
      obtain ⟨a0, a1, a2, a3, a4⟩ := hC2.c
      have X5 := uB ((uA X4).2.trans p2')
      clear hz hc hC hR hN hW ht hd hcn' hC2 p2' hb2 HDG X4
      go_wp2_with fail
      refine (uA HDR).mono ?_
      rintro e y3 ⟨r, rfl, ⟨T', B', D', hC3, hR3⟩, p3'⟩
      obtain ⟨hz, hc, hC, hR, hN, hW, ht, hd, hcn'⟩ := uA XC
      have p3 := (uA X5).trans p3'
      have hN3 := hN.kp p3 (.inr rfl)
      have hW3 := hW.kp p3 (.inl rfl)
      have r5 := hN3.rw n hnl
      have f5 := Blk.frozen hN3 n
      rw [hcn'] at r5 hR3
      have e5 : (cn : Int) - 1 = ((cn - 1 : Nat) : Int) := by omega
      have O5 : Only (fun x => x = gn) y3 (y3.setCell ⟨gn, n, none⟩ (.int .i64 ((cn - 1 : Nat) : Int))) := (Only.refl _ y3).setCell _ _ (fun _ => rfl)
      have X6 := uB (show A2 w b jb pb xb mb sb gb gw gn L1 A1' hn1 T0 B0 D0 c0 (q + 1) (y3.setCell ⟨gn, n, none⟩ (.int .i64 ((cn - 1 : Nat) : Int))) from ⟨T', B', D', bmp c n (cn - 1), z + 1, by omega, fun j => by
       have := hc j
       have h2 := hc n
       rw [hcn'] at h2
       unfold bmp
       split <;> omega, hC3.poke O5 (.inr rfl) (uA HGN).2.2.2.1 ⟨(uA HGN).1, (uA HGN).2.1, (uA HGN).2.2.1⟩, hR3, hN3.set n hnl (cn - 1), hW3.only O5 (uA HGN).2.2.2.2⟩)
      clear hz hc hC hR hN hW ht hd hcn' p3 hN3 hW3 hC3 hR3 p3' O5 HDR X5 XC r4 f4
      generalize cn - 1 = cm at *
      go_wp2
      go_roundw
      case rel => exact ⟨q + 1, by omega, by omega, rfl, by go_num, uA X6⟩
      case measure => simp [intOf]; omega
     ·by_cases hrb : (x.tmod 3 == 0) = true
      ·have hcp : ¬ (0 : Int) < (cn : Int) := fun r => hdr ⟨hrb, by omega⟩
       clear hdr
       go_wp2_with (go_at_call 21; refine (uA HPK _).mono ?_; rintro e w' ⟨rfl, hw'⟩; subst w')
       refine wp_region_held_drew (S := fun w' => w'.cell? ⟨gb, 4, none⟩ = some (.pointer (some ⟨sb, 0, none⟩))) (by kernel_rfl) k4 ?_
       intro hS
       refine yL 0 (some 152) (.pointer (some ⟨gb, 0, none⟩)) rfl (fun w hSw => by have q1 : _ = _ := hSw; go_simp) hS ?_
       refine yL 1 (some 153) (.pointer (some ⟨gb, 0, none⟩)) rfl (fun w hSw => by have q1 : _ = _ := hSw; go_simp) hS ?_
       refine yL 2 (some 154) (.pointer (some ⟨gb, 4, none⟩)) rfl (fun w hSw => by have q1 : _ = _ := hSw; go_simp) hS ?_
       refine yL 3 (some 155) (.pointer (some ⟨sb, 0, none⟩)) rfl (fun w hSw => by have q1 : _ = _ := hSw; go_simp) hS ?_
       refine yL 4 (some 156) (.int .i64 (n : Int)) rfl (fun w hSw => by have q1 : _ = _ := hSw; go_simp) hS ?_
       refine wpAnyH_ready (rs := [5]) (by kernel_rfl) (by simp) ?_
       refine AllReadyH.cons rfl (fun K hK => ?_) AllReadyH.nil
       simp only [lD, lE, lF]
       go_simp
       refine (uA HBK _).mono ?_
       rintro e y2 ⟨rfl, hb2⟩
       obtain ⟨hz, hc, hC, hR, hN, hW, ht, hd, hcn2⟩ := uA XC
       obtain ⟨hC1, p1w⟩ := hC.below ((Below.refl _ wq).drew)
       obtain ⟨hC2, p2w⟩ := hC1.below hb2
       obtain ⟨b0, b1, b2, b3, b4⟩ := hC2.c
       have HSA := uB (hC2.saveAny (by omega) (uA HQ).2.1 (uA HQ).2.2 c hR n hnl (by have := hc n; omega) t ht)
       have X4 := uB (p1w.trans p2w)
       clear hz hc hC hR hN hW ht hd hcn2 hC1 p1w hC2 p2w hb2
       refine hK.out _ _ b4 (fun hS => ?_)
       clear hK K
       refine wpAnyH_ready (rs := [6]) (by kernel_rfl) (by simp) ?_
       refine AllReadyH.cons rfl (fun K hK => ?_) AllReadyH.nil
       simp only [lD, lE, lF]
       go_simp
       refine (uA HSA).mono ?_
       rintro e y3 ⟨dd, r, rfl, ⟨T', B', D', hC3, hR3⟩, p3w⟩
       obtain ⟨d0, d1, d2, d3, d4⟩ := hC3.c
       have X5 := uB (And.intro hC3 (And.intro hR3 ((uA X4).trans p3w)))
       clear hC3 hR3 p3w HSA X4
       refine hK.out _ _ d4 (fun hS => ?_)
       clear hK K
       refine yL 7 (some 151) (.tuple #[.string dd, .bool r, .int .i64 0]) rfl (fun w hSw => by have q1 : _ = _ := hSw; go_simp) hS ?_
       refine yL 8 (some 159) (.string dd) rfl (fun w hSw => by have q1 : _ = _ := hSw; go_simp) hS ?_
       refine yL 9 (some 160) (.bool r) rfl (fun w hSw => by have q1 : _ = _ := hSw; go_simp) hS ?_
       refine yL 10 (some 161) (.int .i64 0) rfl (fun w hSw => by have q1 : _ = _ := hSw; go_simp) hS ?_
       refine yL 11 (some 19) (.int .i64 0) rfl (fun w hSw => by have q1 : _ = _ := hSw; go_simp) hS ?_
       refine wpAnyH_done (by kernel_rfl) ?_ _
       clear hS b0 b1 b2 b3 b4
       obtain ⟨hz, hc, hC, hR, hN, hW, ht, hd, hcn'⟩ := uA XC
       obtain ⟨hC3, hR3, p3⟩ := uA X5
       have hN3 := hN.kp p3 (.inr rfl)
       have hW3 := hW.kp p3 (.inl rfl)
       have r5 := hN3.rw n hnl
       have f5 := Blk.frozen hN3 n
       rw [hcn'] at r5 hR3
       have e5 : (cn : Int) + 1 = ((cn + 1 : Nat) : Int) := by omega
       have O5 : Only (fun x => x = gn) y3 (y3.setCell ⟨gn, n, none⟩ (.int .i64 ((cn + 1 : Nat) : Int))) := (Only.refl _ y3).setCell _ _ (fun _ => rfl)
       have X6 := uB (show A2 w b jb pb xb mb sb gb gw gn L1 A1' hn1 T0 B0 D0 c0 (q + 1) (y3.setCell ⟨gn, n, none⟩ (.int .i64 ((cn + 1 : Nat) : Int))) from ⟨T', B', D', bmp c n (cn + 1), z + 1, by omega, fun j => by
        have := hc j
        have h2 := hc n
        rw [hcn'] at h2
        unfold bmp
        split <;> omega, hC3.poke O5 (.inr rfl) (uA HGN).2.2.2.1 ⟨(uA HGN).1, (uA HGN).2.1, (uA HGN).2.2.1⟩, hR3, hN3.set n hnl (cn + 1), hW3.only O5 (uA HGN).2.2.2.2⟩)
       clear hz hc hC hR hN hW ht hd hcn' p3 hN3 hW3 hC3 hR3 O5 X5 XC r4 f4
       generalize cn + 1 = cm at *
       go_wp2
       go_roundw
       case rel => exact ⟨q + 1, by omega, by omega, rfl, by go_num, uA X6⟩
       case measure => simp [intOf]; omega
      ·have hrb' : (x.tmod 3 == 0) = false := by simpa using hrb
       clear hdr hrb
       go_wp2_with (go_at_call 21; refine (uA HPK _).mono ?_; rintro e w' ⟨rfl, hw'⟩; subst w')
       refine wp_region_held_drew (S := fun w' => w'.cell? ⟨gb, 4, none⟩ = some (.pointer (some ⟨sb, 0, none⟩))) (by kernel_rfl) k4 ?_
       intro hS
       refine yL 0 (some 152) (.pointer (some ⟨gb, 0, none⟩)) rfl (fun w hSw => by have q1 : _ = _ := hSw; go_simp) hS ?_
       refine yL 1 (some 153) (.pointer (some ⟨gb, 0, none⟩)) rfl (fun w hSw => by have q1 : _ = _ := hSw; go_simp) hS ?_
       refine yL 2 (some 154) (.pointer (some ⟨gb, 4, none⟩)) rfl (fun w hSw => by have q1 : _ = _ := hSw; go_simp) hS ?_
       refine yL 3 (some 155) (.pointer (some ⟨sb, 0, none⟩)) rfl (fun w hSw => by have q1 : _ = _ := hSw; go_simp) hS ?_
       refine yL 4 (some 156) (.int .i64 (n : Int)) rfl (fun w hSw => by have q1 : _ = _ := hSw; go_simp) hS ?_
       refine wpAnyH_ready (rs := [5]) (by kernel_rfl) (by simp) ?_
       refine AllReadyH.cons rfl (fun K hK => ?_) AllReadyH.nil
       simp only [lD, lE, lF]
       go_simp
       refine (uA HBK _).mono ?_
       rintro e y2 ⟨rfl, hb2⟩
       obtain ⟨hz, hc, hC, hR, hN, hW, ht, hd, hcn2⟩ := uA XC
       obtain ⟨hC1, p1w⟩ := hC.below ((Below.refl _ wq).drew)
       obtain ⟨hC2, p2w⟩ := hC1.below hb2
       obtain ⟨b0, b1, b2, b3, b4⟩ := hC2.c
       have HSA := uB (hC2.saveAny (by omega) (uA HQ).2.1 (uA HQ).2.2 c hR n hnl (by have := hc n; omega) t ht)
       have X4 := uB (p1w.trans p2w)
       clear hz hc hC hR hN hW ht hd hcn2 hC1 p1w hC2 p2w hb2
       refine hK.out _ _ b4 (fun hS => ?_)
       clear hK K
       refine wpAnyH_ready (rs := [6]) (by kernel_rfl) (by simp) ?_
       refine AllReadyH.cons rfl (fun K hK => ?_) AllReadyH.nil
       simp only [lD, lE, lF]
       go_simp
       refine (uA HSA).mono ?_
       rintro e y3 ⟨dd, r, rfl, ⟨T', B', D', hC3, hR3⟩, p3w⟩
       obtain ⟨d0, d1, d2, d3, d4⟩ := hC3.c
       have X5 := uB (And.intro hC3 (And.intro hR3 ((uA X4).trans p3w)))
       clear hC3 hR3 p3w HSA X4
       refine hK.out _ _ d4 (fun hS => ?_)
       clear hK K
       refine yL 7 (some 151) (.tuple #[.string dd, .bool r, .int .i64 0]) rfl (fun w hSw => by have q1 : _ = _ := hSw; go_simp) hS ?_
       refine yL 8 (some 159) (.string dd) rfl (fun w hSw => by have q1 : _ = _ := hSw; go_simp) hS ?_
       refine yL 9 (some 160) (.bool r) rfl (fun w hSw => by have q1 : _ = _ := hSw; go_simp) hS ?_
       refine yL 10 (some 161) (.int .i64 0) rfl (fun w hSw => by have q1 : _ = _ := hSw; go_simp) hS ?_
       refine yL 11 (some 19) (.int .i64 0) rfl (fun w hSw => by have q1 : _ = _ := hSw; go_simp) hS ?_
       refine wpAnyH_done (by kernel_rfl) ?_ _
       clear hS b0 b1 b2 b3 b4
       obtain ⟨hz, hc, hC, hR, hN, hW, ht, hd, hcn'⟩ := uA XC
       obtain ⟨hC3, hR3, p3⟩ := uA X5
       have hN3 := hN.kp p3 (.inr rfl)
       have hW3 := hW.kp p3 (.inl rfl)
       have r5 := hN3.rw n hnl
       have f5 := Blk.frozen hN3 n
       rw [hcn'] at r5 hR3
       have e5 : (cn : Int) + 1 = ((cn + 1 : Nat) : Int) := by omega
       have O5 : Only (fun x => x = gn) y3 (y3.setCell ⟨gn, n, none⟩ (.int .i64 ((cn + 1 : Nat) : Int))) := (Only.refl _ y3).setCell _ _ (fun _ => rfl)
       have X6 := uB (show A2 w b jb pb xb mb sb gb gw gn L1 A1' hn1 T0 B0 D0 c0 (q + 1) (y3.setCell ⟨gn, n, none⟩ (.int .i64 ((cn + 1 : Nat) : Int))) from ⟨T', B', D', bmp c n (cn + 1), z + 1, by omega, fun j => by
        have := hc j
        have h2 := hc n
        rw [hcn'] at h2
        unfold bmp
        split <;> omega, hC3.poke O5 (.inr rfl) (uA HGN).2.2.2.1 ⟨(uA HGN).1, (uA HGN).2.1, (uA HGN).2.2.1⟩, hR3, hN3.set n hnl (cn + 1), hW3.only O5 (uA HGN).2.2.2.2⟩)
       clear hz hc hC hR hN hW ht hd hcn' p3 hN3 hW3 hC3 hR3 O5 X5 XC r4 f4
       generalize cn + 1 = cm at *
       go_wp2
       go_roundw
       case rel => exact ⟨q + 1, by omega, by omega, rfl, by go_num, uA X6⟩
       case measure => simp [intOf]; omega
    | false =>
     obtain ⟨T, B, D, c, z, hz, hc, hC, hR, hN, hW⟩ := uA HGI
     have HPF := uB (fun W => zCq arm 45 (by decide) (uA HAR) 45 rfl W)
     have hpf := zEn arm 45 (by decide)
     obtain ⟨f, hf⟩ : ∃ f, zC3 arm 45 = f := ⟨_, rfl⟩
     rw [hf] at HPF hpf
     obtain ⟨hCd, pd⟩ := hC.below ((Below.refl _ wq).drew)
     have HARM := uB (hCd.arm f (by omega))
     have HOK := uB (And.intro hC.ok.1 (And.intro hC.lasts.1 (And.intro hC.lasts.2.2.2.2 hC.lasts.2.1)))
     have HBX := uB hCd.box
     obtain ⟨k0, k1, k2, k3, k4⟩ := hC.c
     have XR := uB (And.intro (hN.kp pd (.inr rfl)) (And.intro (hW.kp pd (.inl rfl)) (And.intro hR (And.intro hc (show ∀ x, (x = gw ∨ x = gn) -> Yz mb sb gb (fun x => x = gw ∨ x = gn) x from fun x hx => .inr (.inr (.inr hx)))))))
     clear hz hc hC hR hN hW hf hCd pd HCB HGI
     go_wp2
     refine wp_region_held_drew (S := fun w' => w'.cell? ⟨gb, 0, none⟩ = some (.pointer (some ⟨b, 0, none⟩))) (by kernel_rfl) k0 ?_
     intro hS
     refine yL 0 (some 170) (.pointer (some ⟨gb, 0, none⟩)) rfl (fun w hSw => by have q1 : _ = _ := hSw; go_simp) hS ?_
     refine yL 1 (some 171) (.pointer (some ⟨gb, 0, none⟩)) rfl (fun w hSw => by have q1 : _ = _ := hSw; go_simp) hS ?_
     refine yL 2 (some 172) (.pointer (some ⟨gb, 0, none⟩)) rfl (fun w hSw => by have q1 : _ = _ := hSw; go_simp) hS ?_
     refine yL 3 (some 173) (.pointer (some ⟨b, 0, none⟩)) rfl (fun w hSw => by have q1 : _ = _ := hSw; go_simp) hS ?_
     refine yL 4 (some 174) (.int .i64 arm) rfl (fun w hSw => by have q1 : _ = _ := hSw; go_simp) hS ?_
     refine wpAnyH_ready (rs := [5]) (by kernel_rfl) (by simp) ?_
     refine AllReadyH.cons rfl (fun K hK => ?_) AllReadyH.nil
     simp only [lD, lE, lF]
     go_simp
     refine (uA HPF _).mono ?_
     rintro e w' ⟨rfl, hw'⟩
     subst w'
     refine hK.out _ _ hS (fun hS => ?_)
     clear hK K
     refine wpAnyH_ready (rs := [6]) (by kernel_rfl) (by simp) ?_
     refine AllReadyH.cons rfl (fun K hK => ?_) AllReadyH.nil
     simp only [lD, lE, lF]
     go_simp
     refine (uA HARM).mono ?_
     rintro e x9 ⟨rfl, ⟨tx, hArm, hGd, hMSn, hDn⟩, hO9⟩
     have hBX9 := (uA HBX).only hO9 (fun q => q (.inr (.inr (.inl rfl))))
     have b90 : x9.cell? ⟨gb, 0, none⟩ = some (.pointer (some ⟨b, 0, none⟩)) := hBX9.cell 0
     have b91 : x9.cell? ⟨gb, 1, none⟩ = some (.pointer (some ⟨pb, 0, none⟩)) := hBX9.cell 1
     have HR9 := uB (And.intro ((uA XR).1.only hO9 (fun q => q (.inr (.inr (.inr (.inr rfl)))))) (And.intro ((uA XR).2.1.only hO9 (fun q => q (.inr (.inr (.inr (.inl rfl)))))) hBX9))
     have HMS := uB (show GoodL tx /\ StOv hn1 L1 L1 /\ IS (layP L1 (natW tx)) 20 21 T /\ MS (layP L1 (natW tx)) 19 21 B /\ (∀ i, i < 21 -> (layP L1 (natW tx)).getD (30 + i) ByteArray.empty = D i) from by
      obtain ⟨S, _, _, _, _, _, _, _, a1, a2, a3, a4⟩ := hArm
      exact ⟨a1, a2, a4, hMSn, hDn⟩)
     have HC := uB (hArm.commitC (by omega) (by have := (uA HX2).1; omega))
     clear hArm hGd hMSn hDn hO9 hBX9 HARM HBX
     refine hK.out _ _ b90 (fun hS => ?_)
     clear hK K
     refine wpAnyH_done (by kernel_rfl) ?_ _
     clear hS k0 k1 k2 k3 k4
     go_wp2_with fail
     refine (uA HC).mono ?_
     rintro e x10 ⟨er, s3, rfl, her, hDF, hO10, hp16, hcr⟩
     have hBX10 := (uA HR9).2.2.only hO10 (fun q => q (.inr (.inr (.inl rfl))))
     have b10 : x10.cell? ⟨gb, 0, none⟩ = some (.pointer (some ⟨b, 0, none⟩)) := hBX10.cell 0
     have HR10 := uB (And.intro ((uA HR9).1.only hO10 (fun q => q (.inr (.inr (.inr (.inr rfl)))))) (And.intro ((uA HR9).2.1.only hO10 (fun q => q (.inr (.inr (.inr (.inl rfl)))))) hBX10))
     have HDF := uB (And.intro hDF hcr)
     have HPE := uB (zL3 hDF.di)
     obtain ⟨Pn, hPn⟩ : ∃ P, s3.pend.length = P := ⟨_, rfl⟩
     rw [hPn] at HPE hp16
     have HPN := uB hPn
     have HER := uB her
     clear HC her hDF hcr hO10 hPn hBX10 HR9 b90 b91
     obtain ⟨i0, hi, hz0, hz1', hz2'⟩ := info_parts zIH
     have HIN := uB (And.intro hi (And.intro hz0 (And.intro hz1' hz2')))
     clear hi hz0 hz1' hz2'
     go_wp2_with (go_at_call 31; refine (uA HPE).mono ?_; rintro e w' ⟨rfl, hw'⟩; subst w')
     clear b10
     go_loopw [26, 27] (fun u i wr => ∃ k : Nat, k <= m4 /\ i = .int .i64 (k : Int) /\ BkJ x10 Pn k u wr) (fun _ i _ => m4 - (intOf i).toNat)
     case atStart => exact ⟨0, by omega, rfl, [], World.ownsRow_nil _ _ _ _, fun z hz => (by cases hz), Nat.le_refl _, Below.refl _ _⟩
     case round =>
      obtain ⟨k3, hk3, rfl, K, hR, hK, hKl, hB⟩ := hrel
      obtain ⟨wi, rfl⟩ : ∃ wi, wi = wr := ⟨_, rfl⟩
      obtain ⟨pv, cv, rfl, hcv⟩ := zAy hR
      have HR := uB hR
      have HK := uB hK
      have HB := uB hB
      obtain ⟨m, hm⟩ : ∃ m, K.length = m := ⟨_, rfl⟩
      rw [hm] at hKl ⊢
      have HM := uB hm
      clear hR hK hB hm hcv
      obtain ⟨cb, hcb⟩ : ∃ cb : Bool, decide (k3 < m4 /\ 0 < Pn) = cb := ⟨_, rfl⟩
      have HCB := uB hcb
      clear hcb
      go_upto_region 35 with fail
      go_cut [196] (fun c wx => c = .bool cb /\ wx = wi)
      case first =>
       by_cases g1 : k3 < m4
       ·have g1' : (k3 : Int) < (m4 : Int) := by omega
        have g1d : decide ((k3 : Int) < (m4 : Int)) = true := decide_eq_true g1'
        by_cases g2 : 0 < Pn
        ·have g2' : (0 : Int) < (Pn : Int) := by omega
         have g2d : decide ((0 : Int) < (Pn : Int)) = true := decide_eq_true g2'
         go_wp2_with fail
         go_meet
         exact ⟨congrArg Value.bool (by rw [<- uA HCB]; exact (decide_eq_true ⟨g1, g2⟩).symm), rfl⟩
        ·have g2' : ¬ (0 : Int) < (Pn : Int) := by omega
         have g2d : decide ((0 : Int) < (Pn : Int)) = false := decide_eq_false g2'
         go_wp2_with fail
         go_meet
         exact ⟨congrArg Value.bool (by rw [<- uA HCB]; exact (decide_eq_false (fun r => g2 r.2)).symm), rfl⟩
       ·have g1' : ¬ (k3 : Int) < (m4 : Int) := by omega
        have g1d : decide ((k3 : Int) < (m4 : Int)) = false := decide_eq_false g1'
        go_wp2_with fail
        go_meet
        exact ⟨congrArg Value.bool (by rw [<- uA HCB]; exact (decide_eq_false (fun r => g1 r.1)).symm), rfl⟩
      case rest =>
      obtain ⟨rfl, hwc⟩ := hcut
      subst wc
      cases cb with
      | true =>
       have hgo := of_decide_eq_true (uA HCB)
       have j0 : (0 : Int) <= (k3 : Int) := by omega
       have j1 : (k3 : Int) < (m4 : Int) := by omega
       obtain ⟨gl, ol, rfl, hgl, hcl⟩ := (uA HA4).2.1 k3 (by have := (uA HA4).1; omega)
       have hbw : Below w.heap.size w wi := (uA HDF).1.bel.trans ((uA HB).mono (uA HDF).1.bel.size)
       have hcl' : wi.cell? ⟨gl, ol + k3, none⟩ = some (.int .i64 (l4.getD k3 0)) := (hbw.cell (p := ⟨gl, ol + k3, none⟩) hgl).trans hcl
       have HPQ := uB (fun W => zCq (l4.getD k3 0) Pn hgo.2 ((uA HA4).2.2 k3) (Pn : Int) rfl W)
       have hpq := zEn (l4.getD k3 0) Pn hgo.2
       generalize l4.getD k3 0 = x at *
       obtain ⟨qq, hqq⟩ : ∃ r, zC3 x Pn = r := ⟨_, rfl⟩
       rw [hqq] at HPQ hpq
       have HRA := uB (show (wi.alloc (.cells #[.int .i64 (qq : Int)] 3)).ownsRow x10.heap.size 3 1 (.slice pv m cv) m (K.map (Value.int .i64)) from by
        have := zAh (uA HR) (Only.of_below (P := fun _ => False) ((Below.refl _ wi).alloc (Nat.le_refl _) (.cells #[.int .i64 (qq : Int)] 3))) (fun _ _ q => q)
        rw [uA HM] at this
        exact this)
       have HXB := uB (show Below x10.heap.size x10 (wi.alloc (.cells #[.int .i64 (qq : Int)] 3)) from (uA HB).alloc (uA HB).size _)
       clear hcl hgl hqq hbw HCB
       go_wp2_with (first | (go_at_call 21; refine (uA HPQ _).mono ?_; rintro e w' ⟨rfl, hw'⟩; subst w') | (refine wpList_append_own _ rfl (.tmp 199) (.tmp 206) 53 rfl x10.heap.size 3 i0 (.int .i64 0) 1 8 Tryz.underlying53 (uA HIN).1 (uA HIN).2.1 (uA HIN).2.2.1 (uA HIN).2.2.2 rfl (by decide) _ m (K.map (Value.int .i64)) rfl (uA HRA) ⟨wi.heap.size, 0, none⟩ 1 1 [.int .i64 (qq : Int)] rfl rfl (fun r u hu => zB7 wi 3 _ r u hu) (by simp [Value.oneCell']) (by unfold maxLen; omega) (by omega) (uA HXB).size ?_))
       intro v5 x5 ho5 hg5 _
       have HRR := uB (show BkJ x10 Pn (k3 + 1) v5 x5 from by
        refine ⟨K ++ [(qq : Int)], ?_, fun x hx => ?_, ?_, (uA HXB).grown hg5 (uA HXB).size (fun r hr => ((uA HRA).lt r hr).1)⟩
        ·simpa [uA HM] using ho5
        ·rcases List.mem_append.1 hx with r | r
         ·exact uA HK x r
         ·simp at r; rw [r]; exact ⟨by omega, by omega⟩
        ·simp [uA HM]; omega)
       clear ho5 hg5 HRA HXB
       go_wp2
       go_roundw
       case rel => exact ⟨k3 + 1, by omega, by go_num, uA HRR⟩
       case measure => simp [intOf]; omega
      | false =>
       have HIK := uB (zMj (uA HR))
       have hD := (uA HDF).1.below (uA HB)
       have HCR := uB (zPr hD (by rw [uA HPN]; omega) pv K K.length cv rfl (uA HIK) (by have := uA HM; omega))
       obtain ⟨c1', I, hI, c2'⟩ := (uA HDF).2.crash K (by rw [uA HPN]; exact uA HK)
       rw [c1', c2', uA HM] at HCR
       have HIS := uB hI
       have hBXi := (uA HR10).2.2.below (uA HB) (uA HR10).2.2.lt
       have bi0 : wi.cell? ⟨gb, 0, none⟩ = some (.pointer (some ⟨b, 0, none⟩)) := hBXi.cell 0
       have HB10 := uB (And.intro ((uA HR10).1.below (uA HB) (uA HR10).1.lt) (And.intro ((uA HR10).2.1.below (uA HB) (uA HR10).2.1.lt) hBXi))
       clear hD c1' c2' hI HIK hBXi HCB
       go_wp2_with fail
       refine (uA HCR).mono ?_
       rintro e y1' ⟨rfl, hD1, hO1⟩
       have hBX1 := (uA HB10).2.2.only hO1 (fun q => q (.inr (.inr (.inl rfl))))
       have bj0 : y1'.cell? ⟨gb, 0, none⟩ = some (.pointer (some ⟨b, 0, none⟩)) := hBX1.cell 0
       have HW1 := uB (And.intro ((uA HB10).1.only hO1 (fun q => q (.inr (.inr (.inr (.inr rfl)))))) ((uA HB10).2.1.only hO1 (fun q => q (.inr (.inr (.inr (.inl rfl)))))))
       have HIM := uB (zOM hD1 (uA HIS).len)
       have HY1 := uB hD1.bel
       clear hD1 hO1 HCR HB10 hBX1 bi0
       have her : er = 0 ∨ er = 2 := uA HER
       have herc : ((er != 0) = false) ∨ ((er != 0) = true /\ (er != 2) = false) := by
        rcases her with q | q
        ·exact .inl (by rw [q]; rfl)
        ·exact .inr ⟨by rw [q]; rfl, by rw [q]; rfl⟩
       clear her
       rcases herc with hf0 | ⟨hf0, hf2⟩
       ·have hf2 : True := trivial
        go_wp2_with fail
        refine (uA HIM).mono ?_
        rintro e u1 ⟨gi, cap, rfl, hIg, hb1⟩
        have HLD := uB (zJS u1 (some ⟨gi, 0, none⟩) cap I (uA HIS).len (uA HIS).size hIg)
        have HB1 := uB (And.intro ((uA HY1).trans (hb1.mono (uA HY1).size)) hb1)
        clear hIg hb1 HIM bj0
        go_wp2_with fail
        refine (uA HLD).mono ?_
        rintro e u2 ⟨bq, dv, rfl, hd, hb2⟩
        have hg1 : ETy u1 := (uA HQ).1.below (uA HB1).1 (uA HQ).1.lt
        obtain ⟨a1, a2, a3, a4, a5⟩ := uA HMS
        have HPT := uB (zE9 (n := 21) (uB (zM5 hd hb2 (hg1.below hb2 hg1.lt) (uA HIS) a1 a2.len (uA HOK).2.2.1 (Nat.mod_lt _ (by decide)) (by decide) (uA HOK).2.1 ⟨a3, (uA HOK).1, a4, a5⟩)) hg1 (by decide) (by decide))
        simp only [Int.cast_ofNat_Int] at HPT
        clear hd hb2 hg1 a1 a2 a3 a4 a5 HLD
        go_wp2_with fail
        refine (uA HPT).mono ?_
        rintro e u3 ⟨jq, pq, xq, mq, sq, gq, Lq, Aq, nq, Tq, Bq, Dq, rfl, hCq, hor⟩
        have hlt : gw < u1.heap.size /\ gn < u1.heap.size := by
         have h1 := (uA HW1).1.lt
         have h2 := (uA HW1).2.lt
         have h3 := (uA HB1).2.size
         omega
        have hCo := hCq.old (Z' := fun x => x = gw ∨ x = gn) (fun x hx => .inr (by rcases hx with q | q <;> omega))
        have hbu : Below y1'.heap.size y1' u3 := (uA HB1).2.trans (hCq.bel.mono (uA HB1).2.size)
        have hN3 : RwB u3 gn c := (uA HW1).1.below hbu (uA HW1).1.lt
        have hW3 : RwB u3 gw c0 := (uA HW1).2.below hbu (uA HW1).2.lt
        have hK1 : KTab u1 := (uA HQ).2.1.below (uA HB1).1 (uA HQ).2.1.1
        have hs1 : Snt u1 e0 e1 e2 := (uA HQ).2.2.below (uA HB1).1
        have hcb : ∀ j, c j <= 65535 := fun j => by have := (uA XR).2.2.2.1 j; omega
        have hcb0 : ∀ j, c0 j <= 65535 := fun j => by have := (uA HX2).2.1 j; omega
        clear hbu hlt HPT hCq
        rcases hor with ⟨rfl, rfl, rfl⟩ | ⟨⟨rfl, rfl, rfl⟩, hmust⟩
        ·have HT1 := uB (zDe hCo hK1 hs1 c (uA XR).2.2.1 gn (.inr rfl) c hN3.rw hcb)
         clear hCo hN3 hW3 hK1 hs1 hcb hcb0
         go_wp2_with fail
         refine (uA HT1).mono ?_
         rintro e u4 ⟨r, rfl, hr, hC4, p4⟩
         obtain rfl := hr (fun _ _ => rfl)
         have HF := uB ((uA HB1).1.trans (hC4.bel.mono (uA HB1).1.size))
         clear hr hC4 p4 HT1
         go_wp2
         go_ret
         exact ⟨rfl, uA HF⟩
        ·have q0 : er = 0 := by simpa using hf0
         rw [q0] at hmust
         cases hmust
       ·skip
        go_wp2_with fail
        refine (uA HIM).mono ?_
        rintro e u1 ⟨gi, cap, rfl, hIg, hb1⟩
        have HLD := uB (zJS u1 (some ⟨gi, 0, none⟩) cap I (uA HIS).len (uA HIS).size hIg)
        have HB1 := uB (And.intro ((uA HY1).trans (hb1.mono (uA HY1).size)) hb1)
        clear hIg hb1 HIM bj0
        go_wp2_with fail
        refine (uA HLD).mono ?_
        rintro e u2 ⟨bq, dv, rfl, hd, hb2⟩
        have hg1 : ETy u1 := (uA HQ).1.below (uA HB1).1 (uA HQ).1.lt
        obtain ⟨a1, a2, a3, a4, a5⟩ := uA HMS
        have HPT := uB (zE9 (n := 21) (uB (zM5 hd hb2 (hg1.below hb2 hg1.lt) (uA HIS) a1 a2.len (uA HOK).2.2.1 (Nat.mod_lt _ (by decide)) (by decide) (uA HOK).2.1 ⟨a3, (uA HOK).1, a4, a5⟩)) hg1 (by decide) (by decide))
        simp only [Int.cast_ofNat_Int] at HPT
        clear hd hb2 hg1 a1 a2 a3 a4 a5 HLD
        go_wp2_with fail
        refine (uA HPT).mono ?_
        rintro e u3 ⟨jq, pq, xq, mq, sq, gq, Lq, Aq, nq, Tq, Bq, Dq, rfl, hCq, hor⟩
        have hlt : gw < u1.heap.size /\ gn < u1.heap.size := by
         have h1 := (uA HW1).1.lt
         have h2 := (uA HW1).2.lt
         have h3 := (uA HB1).2.size
         omega
        have hCo := hCq.old (Z' := fun x => x = gw ∨ x = gn) (fun x hx => .inr (by rcases hx with q | q <;> omega))
        have hbu : Below y1'.heap.size y1' u3 := (uA HB1).2.trans (hCq.bel.mono (uA HB1).2.size)
        have hN3 : RwB u3 gn c := (uA HW1).1.below hbu (uA HW1).1.lt
        have hW3 : RwB u3 gw c0 := (uA HW1).2.below hbu (uA HW1).2.lt
        have hK1 : KTab u1 := (uA HQ).2.1.below (uA HB1).1 (uA HQ).2.1.1
        have hs1 : Snt u1 e0 e1 e2 := (uA HQ).2.2.below (uA HB1).1
        have hcb : ∀ j, c j <= 65535 := fun j => by have := (uA XR).2.2.2.1 j; omega
        have hcb0 : ∀ j, c0 j <= 65535 := fun j => by have := (uA HX2).2.1 j; omega
        clear hbu hlt HPT hCq
        rcases hor with ⟨rfl, rfl, rfl⟩ | ⟨⟨rfl, rfl, rfl⟩, hmust⟩
        ·have HT1 := uB (zDe hCo hK1 hs1 c (uA XR).2.2.1 gn (.inr rfl) c hN3.rw hcb)
         clear hCo hN3 hW3 hK1 hs1 hcb hcb0
         go_wp2_with fail
         refine (uA HT1).mono ?_
         rintro e u4 ⟨r, rfl, hr, hC4, p4⟩
         obtain rfl := hr (fun _ _ => rfl)
         have HF := uB ((uA HB1).1.trans (hC4.bel.mono (uA HB1).1.size))
         clear hr hC4 p4 HT1
         go_wp2
         go_ret
         exact ⟨rfl, uA HF⟩
        ·have HT1 := uB (zDe hCo hK1 hs1 c0 (uA HX2).2.2 gn (.inr rfl) c hN3.rw hcb)
         have X7 := uB (And.intro hW3 (And.intro hK1 (And.intro hs1 hcb0)))
         have hf2' : (er == 2) = true := by simpa using hf2
         clear hCo hN3 hW3 hK1 hs1 hcb hcb0 hmust
         go_wp2_with fail
         refine (uA HT1).mono ?_
         rintro e u4 ⟨r, rfl, hr, hC4, p4⟩
         cases r with
         | true =>
          have HF := uB ((uA HB1).1.trans (hC4.bel.mono (uA HB1).1.size))
          clear hr hC4 p4 HT1
          go_wp2
          go_ret
          exact ⟨rfl, uA HF⟩
         | false =>
          have HT2 := uB (zDe hC4 (uA X7).2.1 (uA X7).2.2.1 c0 (uA HX2).2.2 gw (.inl rfl) c0 ((uA X7).1.kp p4 (.inl rfl)).rw (uA X7).2.2.2)
          clear hr hC4 p4 HT1
          go_wp2_with fail
          refine (uA HT2).mono ?_
          rintro e u5 ⟨r, rfl, hr, hC5, p5⟩
          obtain rfl := hr (fun _ _ => rfl)
          have HF := uB ((uA HB1).1.trans (hC5.bel.mono (uA HB1).1.size))
          clear hr hC5 p5 HT2
          go_wp2
          go_ret
          exact ⟨rfl, uA HF⟩
end
end Go.Proofs.YtdpnbemagiekoaaGreatDoor
