import Derived.Test.YtiellebdliifdaaGreatDoorMt19
import Derived.Test.YtiellebdliifdaaGreatDoorMt04
import Derived.Deep.QuietTactic
import Derived.BigQuiet
import Derived.Test.YtiellebdliifdaaGreatDoorMt18
namespace Go.Proofs.YtiellebdliifdaaGreatDoor
open Go.RowKit Go.Maps Go.Sort Go.Shelf
theorem hcount_any (w : World) (base pb b jb : Nat) (op : Bool) (bw keep bv : Nat) (ov : Value) (hits mis : Int) (lost : Bool) (n : Nat) (xs : List Value) (hB : Blk w pb (Pcs b jb op bw keep bv ov hits mis lost) 66) (H : w.ownsRow base 3 1 ov n xs) :
  Calls Tryz.prog 89 #[.pointer (some ⟨pb, 4, none⟩)] w fun e w' => e = .returned (.int .i64 (n : Int)) ∧ w' = w := by
 obtain ⟨p, cap, rfl, _⟩ := row_form H
 have c6 : w.cell? ⟨pb, 6, none⟩ = some (.slice p n cap) := by rw [hB.cell]; rfl
 clear hB H
 go_enter Tryz.func89, Tryz.ntmps89
 go_wp2
 go_ret
 exact ⟨rfl, rfl⟩
theorem hfind_any (w : World) (base pb b jb : Nat) (op : Bool) (bw keep bv : Nat) (ov : Value) (hits mis : Int) (lost : Bool) (h : Tx) (hB : Blk w pb (Pcs b jb op bw keep bv ov hits mis lost) 66) (H : Hn w base h bv ov) (k : Int) (hk : I64k k) :
  Calls Tryz.prog 178 #[.pointer (some ⟨pb, 4, none⟩), .int .i64 k] w fun e w' => e = .returned (.tuple #[.string ((txAt h k).getD ByteArray.empty), .bool (txAt h k).isSome]) ∧ w' = w := by
 obtain ⟨L, hp, hm⟩ := H.mp
 have hl := (hm.look hk).1
 rw [← at_perm hm.2.nd hp k] at hl
 have c5 : w.cell? ⟨pb, 5, none⟩ = some (.map (some bv)) := by rw [hB.cell]; rfl
 clear hB H hm
 generalize (txAt h k).getD ByteArray.empty = t at *
 generalize (txAt h k).isSome = q at *
 go_enter Tryz.func178, Tryz.ntmps178
 go_wp2
 go_ret2
 exact ⟨rfl, rfl⟩
theorem hempty_any (w : World) (base pb b jb : Nat) (op : Bool) (bw keep bv : Nat) (ov : Value) (hits mis : Int) (lost : Bool) (h : Tx) (hB : Blk w pb (Pcs b jb op bw keep bv ov hits mis lost) 66) (H : Hn w base h bv ov) :
  Calls Tryz.prog 32 #[.pointer (some ⟨pb, 4, none⟩)] w fun e w' => e = .returned (.tuple #[]) ∧ Blk w' pb (Pcs b jb op bw keep bv (.slice none 0 0) hits mis lost) 66 ∧ Hn w' base [] bv (.slice none 0 0) ∧ Only (Hb pb bv ov) w w' := by
 obtain ⟨L, hp, hm⟩ := H.mp
 have hbp : pb ≠ bv := hm.not_blk hB
 obtain ⟨w1, hrun, hm1, hO1, hs1⟩ := hm.clear 0
 have hB1 := hB.only hO1 (fun q => hbp q)
 have c5 : w.cell? ⟨pb, 5, none⟩ = some (.map (some bv)) := by rw [hB.cell]; rfl
 have c6 : w1.cell? ⟨pb, 6, none⟩ = some ov := by rw [hB1.cell]; rfl
 have f6 : w1.frozen? ⟨pb, 6, none⟩ = false := hB1.frozen 6
 have hOs : Only (fun x => x = pb) w1 (w1.setCell ⟨pb, 6, none⟩ (.slice none 0 0)) := (Only.refl _ _).setCell _ _ (fun _ => rfl)
 have HR := hide (show Blk (w1.setCell ⟨pb, 6, none⟩ (.slice none 0 0)) pb (Pcs b jb op bw keep bv (.slice none 0 0) hits mis lost) 66 ∧ Hn (w1.setCell ⟨pb, 6, none⟩ (.slice none 0 0)) base [] bv (.slice none 0 0) ∧ Only (Hb pb bv ov) w (w1.setCell ⟨pb, 6, none⟩ (.slice none 0 0)) from
  ⟨hB1.set 6 _, ⟨⟨[], List.Perm.refl _, hm1.only hOs (fun q => hbp q.symm)⟩, ⟨rfl, .inl ⟨rfl, rfl⟩⟩, fun p hp => by cases hp⟩, (hO1.mono (fun _ _ q => .inr (.inl q))).setCell _ _ (fun _ => .inl rfl)⟩)
 clear hB H hm hbp hm1 hO1 hs1 hB1 hOs hp
 go_enter Tryz.func32, Tryz.ntmps32
 go_wp2
 go_end0
 exact ⟨rfl, unhide HR⟩
set_option maxRecDepth 100000 in
set_option maxHeartbeats 1000000 in
theorem hlay_any (w : World) (base pb b jb : Nat) (op : Bool) (bw keep bv : Nat) (ov : Value) (hits mis : Int) (lost : Bool) (h : Tx) (hB : Blk w pb (Pcs b jb op bw keep bv ov hits mis lost) 66) (H : Hn w base h bv ov) (hbs : base ≤ w.heap.size) (k : Int) (hk : I64k k) (s : ByteArray) (hs : s.size ≤ maxLen) (hn : h.length ≤ keep) (hkp : keep ≤ 64) :
  Calls Tryz.prog 33 #[.pointer (some ⟨pb, 4, none⟩), .int .i64 k, .string s] w fun e w' => e = .returned (.tuple #[]) ∧ ∃ ov', Blk w' pb (Pcs b jb op bw keep bv ov' hits mis lost) 66 ∧ Hn w' base (hLay keep k s h) bv ov' ∧ Only (Hb pb bv ov) w w' ∧ (ov'.ownBlock = ov.ownBlock ∨ ∃ g, ov'.ownBlock = some g ∧ w.heap.size ≤ g) := by
 have HD1 := hide (hdrop_any w base pb b jb op bw keep bv ov hits mis lost h hB H k hk (by omega))
 have HK := hide (And.intro hbs (And.intro hk (And.intro hs (And.intro hn hkp))))
 clear hB H hbs hs hn hkp
 go_enter Tryz.func33, Tryz.ntmps33
 go_wp2_with fail
 refine (unhide HD1).mono ?_
 rintro e w1 ⟨rfl, ov1, hB1, H1, hO1, hw1⟩
 clear HD1
 obtain ⟨hbs, _, hs, hn, hkp⟩ := unhide HK
 have hd := del_length k h
 obtain ⟨L, hp, hm⟩ := H1.mp
 have hbp : pb ≠ bv := hm.not_blk hB1
 have hop : ov1.ownBlock ≠ some pb := hB1.not_row (by decide) H1.ord
 have hob : ov1.ownBlock ≠ some bv := hm.not_row H1.ord
 obtain ⟨w2, hrun, hm2, hO2, hs2⟩ := hm.put hk s hs (by have := hp.length_eq; omega)
 have hB2 := hB1.only hO2 (fun q => hbp q)
 have hr2 := owns_only H1.ord hO2 (fun x hx q => hob (by rw [hx, q]))
 have c5 : w1.cell? ⟨pb, 5, none⟩ = some (.map (some bv)) := by rw [hB1.cell]; rfl
 have c6 : w2.cell? ⟨pb, 6, none⟩ = some ov1 := by rw [hB2.cell]; rfl
 obtain ⟨w3, hw3⟩ : ∃ w3, w2.alloc (.cells #[.int .i64 k] 3) = w3 := ⟨_, rfl⟩
 have hO3 : Only (fun _ => False) w2 w3 := by rw [← hw3]; exact (Only.refl _ _).alloc _
 have hB3 := hB2.only hO3 (fun q => q)
 have hm3 := hm2.only hO3 (fun q => q)
 have hr3 := owns_only hr2 hO3 (fun _ _ q => q)
 have hk3 : Blk w3 w2.heap.size #[.int .i64 k] 3 := by rw [← hw3]; exact Blk.new w2 3 _
 have hne3 : ov1.ownBlock ≠ some w2.heap.size := fun q => by have := row_lt hr2 q; omega
 have hle : w.heap.size ≤ w3.heap.size := Nat.le_trans hO1.size (Nat.le_trans hO2.size hO3.size)
 have HI := hide (ins_row w3 base w2.heap.size k ov1 _ hr3 hk3 hne3 (by omega) (by simp; omega))
 have hO13 : Only (Hb pb bv ov) w w3 := (hO1.trans hO2 (fun _ _ q => .inr (.inl q))).trans hO3 (fun _ _ q => q.elim)
 have HX := hide (And.intro hB3 (And.intro hm3 (And.intro hO13 (And.intro hbp (And.intro hop (And.intro hob (And.intro hp (And.intro hw1 (And.intro hle H1.wf)))))))))
 clear hB1 H1 hO1 hw1 hm hbp hop hob hm2 hO2 hs2 hB2 hr2 hO3 hB3 hm3 hr3 hk3 hne3 hle hO13 hp
 replace hw3 := hide hw3
 go_wp2_with fail
 rw [unhide hw3]
 refine (unhide HI).mono ?_
 rintro e w4 ⟨ov2, rfl, r1, r2, r3⟩
 obtain ⟨hB3, hm3, hO13, hbp, hop, hob, hp, hw1, hle, hwf⟩ := unhide HX
 have hB4 := hB3.only r2 (fun q => hop q)
 have hm4 := hm3.only r2 (fun q => hob q)
 have hOs : Only (fun x => x = pb) w4 (w4.setCell ⟨pb, 6, none⟩ ov2) := (Only.refl _ _).setCell _ _ (fun _ => rfl)
 have hop2 : ov2.ownBlock ≠ some pb := hB4.not_row (by decide) r1
 have c6' : w4.cell? ⟨pb, 6, none⟩ = some ov1 := by rw [hB4.cell]; rfl
 have f6' : w4.frozen? ⟨pb, 6, none⟩ = false := hB4.frozen 6
 obtain ⟨w5, hw5⟩ : ∃ w5, w4.setCell ⟨pb, 6, none⟩ ov2 = w5 := ⟨_, rfl⟩
 have hB5 : Blk w5 pb (Pcs b jb op bw keep bv ov2 hits mis lost) 66 := by rw [← hw5]; exact hB4.set 6 ov2
 rw [hw5] at hOs
 have hm5 := hm4.only hOs (fun q => hbp q.symm)
 have hr5 : w5.ownsRow base 3 1 ov2 (((k, s) :: txDel k h).map (·.1)).length ((((k, s) :: txDel k h).map (·.1)).map encZ) := by
  have := owns_only r1 hOs (fun x hx q => hop2 (by rw [hx, q]))
  simpa using this
 have hO5 : Only (Hb pb bv ov) w w5 := (hO13.trans r2 (fun x _ q => .inr (.inr (by rw [← hw1]; exact q)))).trans hOs (fun _ _ q => .inl q)
 have H5 : Hn w5 base ((k, s) :: txDel k h) bv ov2 := ⟨⟨_, (ins_perm k s _).trans (List.Perm.cons _ ((del_perm hp k).trans (by rw [del_del]))), hm5⟩, hr5, fun p hp => by
  rcases List.mem_cons.1 hp with rfl | q
  ·exact hk
  ·exact hwf p q⟩
 have hf5 : ov2.ownBlock = ov.ownBlock ∨ ∃ g, ov2.ownBlock = some g ∧ w.heap.size ≤ g := by
  rcases r3 with q | ⟨g, q1, q2⟩
  ·exact .inl (q.trans hw1)
  ·exact .inr ⟨g, q1, by omega⟩
 obtain ⟨m1, hm1⟩ : ∃ m, (k, s) :: txDel k h = m := ⟨_, rfl⟩
 rw [hm1] at H5 hr5
 have hml : m1.length = (txDel k h).length + 1 := by rw [← hm1]; rfl
 have hlay : hLay keep k s h = m1.take keep := by rw [← hm1]; rfl
 obtain ⟨p2, cap2, e2, _⟩ := row_form hr5
 have hc5 : w5.cell? ⟨pb, 6, none⟩ = some ov2 := by rw [hB5.cell]; rfl
 have hk5 : w5.cell? ⟨pb, 4, none⟩ = some (.int .i64 (keep : Int)) := by rw [hB5.cell]; rfl
 rw [List.length_map] at hr5 e2
 have HC := hide (fun (n : Nat) => hcount_any (w5.drewN n) base pb b jb op bw keep bv ov2 hits mis lost _ _ hB5 hr5)
 have HL := hide hlay
 have HY := hide (And.intro hB5 (And.intro H5 (And.intro hO5 hf5)))
 have HZ := hide (And.intro hml (And.intro hd (And.intro hn hkp)))
 have HR5 := hide hr5
 clear hB3 hm3 hO13 hbp hop hob hp hw1 hle hwf hB4 hm4 hop2 hB5 hm5 hr5 hO5 H5 hf5 r1 r2 r3 hOs HX HI HK hbs hs hn hkp hd hlay hm1 hml c5 c6 hrun hw3
 subst e2
 obtain ⟨hml, hd, hn, hkp⟩ := unhide HZ
 by_cases hbig : keep < m1.length
 ·have hml' : m1.length = keep + 1 := by omega
  have hd1 : decide ((keep : Int) < (m1.length : Int)) = true := by simp; omega
  obtain ⟨z, hz⟩ : ∃ z, (m1.map (·.1)).getD keep 0 = z := ⟨_, rfl⟩
  obtain ⟨hB5, H5, hO5, hf5⟩ := unhide HY
  have hzk : I64k z := by
   rw [← hz, List.getD_eq_getElem?_getD, List.getElem?_eq_getElem (by simp; omega)]
   simp only [Option.getD_some, List.getElem_map]
   exact H5.wf _ (List.getElem_mem _)
  have hlast := del_last H5.nd hml' z hz
  have HD2 := hide (fun (W : World) (hW : Only (fun _ => False) w5 W) => hdrop_any W base pb b jb op bw keep bv _ hits mis lost m1 (hB5.only hW (fun q => q)) (H5.only hW (fun q => q) (fun _ _ q => q)) z hzk (by omega))
  have HZ2 := hide (And.intro hlast (And.intro hO5 hf5))
  have hrr := unhide HR5
  rcases hrr.2 with ⟨q, q0⟩ | ⟨g, cap, cur, q, _, hgb, q1, q2, q3, q4⟩
  ·omega
  injection q with q5 q6 q7
  subst q5 q7
  have cz : w5.cell? ⟨g, keep, none⟩ = some (.int .i64 z) := by
   rw [(show Blk w5 g cur 3 from hgb).cell, ← Array.getElem?_toList]
   have e1 : (cur.toList.take (m1.length * 1))[keep]? = ((m1.map (·.1)).map encZ)[keep]? := by rw [q4]
   rw [List.getElem?_take_of_lt (by omega)] at e1
   rw [e1, ← hz]
   simp [List.getD_eq_getElem?_getD, show keep < m1.length by omega]
  clear hB5 H5 hO5 hf5 hzk hlast hrr hgb q1 q2 q3 q4 q6 HR5 HY HZ hd hz
  have i1 : (0 : Int) ≤ (keep : Int) := by omega
  have i2 : (keep : Int) < (m1.length : Int) := by omega
  clear hml hml'
  generalize m1.length = ml at *
  replace hw5 := hide hw5
  go_wp2_with fail
  rw [unhide hw5]
  go_quiet ((go_at_call 89; exact Calls.quiet_of_same (unhide HC _)))
  have HWn := hide (show Only (fun _ => False) w5 (w5.drewN nq) from (Only.refl _ _).drewN nq)
  have c6n : (w5.drewN nq).cell? ⟨pb, 6, none⟩ = some (.slice (some ⟨g, 0, none⟩) ml cap2) := hc5
  have c4n : (w5.drewN nq).cell? ⟨pb, 4, none⟩ = some (.int .i64 (keep : Int)) := hk5
  have czn : (w5.drewN nq).cell? ⟨g, keep, none⟩ = some (.int .i64 z) := cz
  generalize w5.drewN nq = w6 at *
  go_wp2_with fail
  go_still_tail 11, (by kernel_rfl)
  change wpList _ _ _ _ _ w6.drew
  go_wp2_with fail
  refine (unhide HD2 _ (unhide HWn).drew).mono ?_
  rintro e w7 ⟨rfl, ov3, t1, t2, t3, t4⟩
  obtain ⟨hlast, hO5, hf5⟩ := unhide HZ2
  rw [hlast] at t2
  have HR := hide (show Blk w7 pb (Pcs b jb op bw keep bv ov3 hits mis lost) 66 ∧ Hn w7 base (m1.take keep) bv ov3 ∧ Only (Hb pb bv ov) w w7 ∧ (ov3.ownBlock = ov.ownBlock ∨ ∃ g, ov3.ownBlock = some g ∧ w.heap.size ≤ g) from by
   refine ⟨t1, t2, ⟨(hO5.1.trans (unhide HWn).drew.1).trans t3.1, fun x hx hne => ?_⟩, ?_⟩
   ·have hx5 := Nat.lt_of_lt_of_le hx hO5.size
    rw [t3.2 x (Nat.lt_of_lt_of_le hx5 (unhide HWn).drew.size) ?_, (unhide HWn).drew.2 x hx5 (fun q => q), hO5.2 x hx hne]
    rintro (q | q | q)
    ·exact hne (.inl q)
    ·exact hne (.inr (.inl q))
    ·rcases hf5 with r | ⟨g', r1, r2⟩
     ·exact hne (.inr (.inr (by rw [← r]; exact q)))
     ·rw [q] at r1; cases r1; omega
   ·rw [t4]; exact hf5)
  clear t1 t2 t3 t4 hlast hO5 hf5 HD2 HZ2 HWn HC hw5
  go_wp2
  go_end0
  rw [unhide HL]
  exact ⟨rfl, _, unhide HR⟩
 ·have hd1 : decide ((keep : Int) < (m1.length : Int)) = false := by simp; omega
  have htk : m1.take keep = m1 := List.take_of_length_le (by omega)
  obtain ⟨hB5, H5, hO5, hf5⟩ := unhide HY
  have HR := hide (And.intro htk (And.intro hB5 (And.intro H5 (And.intro hO5 hf5))))
  clear hB5 H5 hO5 hf5 htk HY HZ HR5 hd hn hkp hml
  generalize m1.length = ml at *
  replace hw5 := hide hw5
  go_wp2_with fail
  rw [unhide hw5]
  go_quiet ((go_at_call 89; exact Calls.quiet_of_same (unhide HC _)))
  go_wp2
  go_end0
  obtain ⟨htk, hB5, H5, hO5, hf5⟩ := unhide HR
  rw [unhide HL, htk]
  exact ⟨rfl, _, hB5, H5.only (P := fun _ => False) ((Only.refl _ _).drewN nq) (fun q => q) (fun _ _ q => q), hO5.drewN nq, hf5⟩
end Go.Proofs.YtiellebdliifdaaGreatDoor
namespace Go.Proofs.YtiellebdliifdaaGreatDoor
open Go.RowKit Go.Maps Go.Sort Go.Shelf
structure PS where
 s : DSt
 nx : Nat
 jl : Bool
 op : Bool
 tx : Tx
 keep : Nat
 h : Tx
 hits : Int
 mis : Int
 lost : Bool
def Pf (pb bw bv : Nat) (ov : Value) (x : Nat) : Prop := x = pb ∨ x = bw ∨ x = bv ∨ ov.ownBlock = some x
structure PKi (w0 w : World) (b jb pb : Nat) (S : PS) (X : Nat → Prop) (bw bv : Nat) (ov : Value) : Prop where
 jk : JK w0 w b jb S.s S.nx S.jl (fun x => X x ∨ Pf pb bw bv ov x)
 blk : Blk w pb (Pcs b jb S.op bw S.keep bv ov S.hits S.mis S.lost) 66
 tx : Mp w bw S.tx
 hn : Hn w w0.heap.size S.h bv ov
 ne : bw ≠ bv
 lo1 : w0.heap.size ≤ pb
 lo2 : w0.heap.size ≤ bw
 lo3 : w0.heap.size ≤ bv
 xn : ∀ x, X x → ¬ Pf pb bw bv ov x
 hk : S.h.length ≤ S.keep
 kp : S.keep ≤ 64
 t16 : S.tx.length ≤ 16
 tok : ∀ p ∈ S.tx, 19 ≤ p.1 ∧ p.1 < (S.s.last.length : Int) ∧ p.2.size = 256
def PK (w0 w : World) (b jb pb : Nat) (S : PS) (X : Nat → Prop) : Prop := ∃ bw bv ov, PKi w0 w b jb pb S X bw bv ov
theorem JK.poke {w0 w w' : World} {b jb : Nat} {s : DSt} {nx : Nat} {lost : Bool} {Y P Z : Nat → Prop} (h : JK w0 w b jb s nx lost Y) (ho : Only P w w') (hP : ∀ x, P x → x < w.heap.size → Y x) (hlo : ∀ x, P x → w0.heap.size ≤ x) (hZ : ∀ x, Z x → Y x ∨ (w.heap.size ≤ x ∧ x < w'.heap.size)) : JK w0 w' b jb s nx lost Z := by
 obtain ⟨v, h1, h2, h3, h4, h5, h6, h7⟩ := h
 have hjb := Blk.lt h2
 refine ⟨v, h1.only ho (fun k hk q => (h7 k (hP k q (h1.fd k hk).2)).1 hk), Blk.only h2 ho (fun q => (h7 jb (hP jb q hjb)).2.1 rfl), h3, h4, h5.trans (ho.below h5.size (fun k hk q => by have := hlo k q; omega)), h6, fun x hx => ?_⟩
 rcases hZ x hx with q | ⟨q1, q2⟩
 ·obtain ⟨a1, a2, a3⟩ := h7 x q
  exact ⟨a1, a2, Nat.lt_of_lt_of_le a3 ho.size⟩
 ·refine ⟨fun q => ?_, fun q => ?_, q2⟩
  ·have := (h1.fd x q).2; omega
  ·omega
theorem JK.dk {w0 w : World} {b jb : Nat} {s : DSt} {nx : Nat} {lost : Bool} {Y : Nat → Prop} (h : JK w0 w b jb s nx lost Y) : ∃ v, Dk w w0.heap.size b v s := by
 obtain ⟨v, h1, _⟩ := h
 exact ⟨v, h1⟩
theorem JK.sane {w0 w : World} {b jb : Nat} {s : DSt} {nx : Nat} {lost : Bool} {Y : Nat → Prop} (h : JK w0 w b jb s nx lost Y) : Sane s := by
 obtain ⟨v, h1, h2, h3, h4, h5, h6, h7⟩ := h
 exact h6
theorem PKi.upd {w0 w w' : World} {b jb pb : Nat} {S : PS} {X : Nat → Prop} {bw bv : Nat} {ov : Value} (K : PKi w0 w b jb pb S X bw bv ov) (ho : Only (Pf pb bw bv ov) w w') (ov' : Value) (hov : ov'.ownBlock = ov.ownBlock ∨ ∃ g, ov'.ownBlock = some g ∧ w.heap.size ≤ g) (S' : PS) (e1 : S'.s = S.s) (e2 : S'.nx = S.nx) (e3 : S'.jl = S.jl) (e4 : S'.keep = S.keep) (hB : Blk w' pb (Pcs b jb S'.op bw S.keep bv ov' S'.hits S'.mis S'.lost) 66) (hm : Mp w' bw S'.tx) (hn : Hn w' w0.heap.size S'.h bv ov') (hk : S'.h.length ≤ S.keep) (ht : S'.tx.length ≤ 16) (htk : ∀ p ∈ S'.tx, 19 ≤ p.1 ∧ p.1 < (S.s.last.length : Int) ∧ p.2.size = 256) :
  PK w0 w' b jb pb S' X ∧ Only (fun x => ¬ X x) w w' := by
 have hlo : ∀ x, Pf pb bw bv ov x → w0.heap.size ≤ x := fun x hx => by
  rcases hx with rfl | rfl | rfl | q
  ·exact K.lo1
  ·exact K.lo2
  ·exact K.lo3
  ·exact (row_lt K.hn.ord q).2
 have hnew : ∀ x, Pf pb bw bv ov' x → Pf pb bw bv ov x ∨ (w.heap.size ≤ x ∧ x < w'.heap.size) := fun x hx => by
  rcases hx with q | q | q | q
  ·exact .inl (.inl q)
  ·exact .inl (.inr (.inl q))
  ·exact .inl (.inr (.inr (.inl q)))
  ·rcases hov with r | ⟨g, r1, r2⟩
   ·exact .inl (.inr (.inr (.inr (by rw [← r]; exact q))))
   ·rw [q] at r1; cases r1
    exact .inr ⟨r2, (row_lt hn.ord q).1⟩
 refine ⟨⟨bw, bv, ov', ?_, ?_, hm, hn, K.ne, K.lo1, K.lo2, K.lo3, fun x hx q => ?_, by rw [e4]; exact hk, by rw [e4]; exact K.kp, ht, by rw [e1]; exact htk⟩, ho.mono (fun x _ q r => K.xn x r q)⟩
 ·rw [e1, e2, e3]
  refine K.jk.poke ho (fun x q _ => .inr q) hlo (fun x hx => ?_)
  rcases hx with q | q
  ·exact .inl (.inl q)
  ·rcases hnew x q with r | r
   ·exact .inl (.inr r)
   ·exact .inr r
 ·rw [e4]; exact hB
 ·rcases hnew x q with r | r
  ·exact K.xn x hx r
  ·have := K.jk.lt x (.inl hx); omega
theorem PKi.same {w0 w : World} {b jb pb : Nat} {S : PS} {X : Nat → Prop} {bw bv : Nat} {ov : Value} (K : PKi w0 w b jb pb S X bw bv ov) : PK w0 w b jb pb S X ∧ Only (fun x => ¬ X x) w w := ⟨⟨bw, bv, ov, K⟩, Only.refl _ _⟩
theorem PK.below {w0 w w' : World} {b jb pb : Nat} {S : PS} {X : Nat → Prop} (h : PK w0 w b jb pb S X) (hb : Below w.heap.size w w') : PK w0 w' b jb pb S X := by
 obtain ⟨bw, bv, ov, K⟩ := h
 have hO : Only (fun _ => False) w w' := Only.of_below hb
 exact ⟨bw, bv, ov, K.jk.below hb, K.blk.only hO (fun q => q), K.tx.only hO (fun q => q), K.hn.only hO (fun q => q) (fun _ _ q => q), K.ne, K.lo1, K.lo2, K.lo3, K.xn, K.hk, K.kp, K.t16, K.tok⟩
theorem PK.bel {w0 w : World} {b jb pb : Nat} {S : PS} {X : Nat → Prop} (h : PK w0 w b jb pb S X) : Below w0.heap.size w0 w := by
 obtain ⟨bw, bv, ov, K⟩ := h
 exact K.jk.bel
theorem PK.lt {w0 w : World} {b jb pb : Nat} {S : PS} {X : Nat → Prop} (h : PK w0 w b jb pb S X) (x : Nat) (hx : X x) : x < w.heap.size := by
 obtain ⟨bw, bv, ov, K⟩ := h
 exact K.jk.lt x (.inl hx)
theorem PK.more {w0 w w' : World} {b jb pb : Nat} {S : PS} {X Y : Nat → Prop} (h : PK w0 w b jb pb S X) (hb : Below w.heap.size w w') (hy : ∀ x, Y x → X x ∨ (w.heap.size ≤ x ∧ x < w'.heap.size)) : PK w0 w' b jb pb S Y := by
 obtain ⟨bw, bv, ov, K⟩ := h
 have hO : Only (fun _ => False) w w' := Only.of_below hb
 refine ⟨bw, bv, ov, K.jk.more hb _ (fun x hx => ?_), K.blk.only hO (fun q => q), K.tx.only hO (fun q => q), K.hn.only hO (fun q => q) (fun _ _ q => q), K.ne, K.lo1, K.lo2, K.lo3, fun x hx q => ?_, K.hk, K.kp, K.t16, K.tok⟩
 ·rcases hx with q | q
  ·rcases hy x q with r | r
   ·exact .inl (.inl r)
   ·exact .inr r
  ·exact .inl (.inr q)
 ·rcases hy x hx with r | r
  ·exact K.xn x r q
  ·have := K.jk.lt x (.inr q); omega
theorem PK.poke {w0 w w' : World} {b jb pb : Nat} {S : PS} {X Y P : Nat → Prop} (h : PK w0 w b jb pb S X) (ho : Only P w w') (hP : ∀ x, P x → x < w.heap.size → X x) (hlo : ∀ x, P x → w0.heap.size ≤ x) (hy : ∀ x, Y x → X x ∨ (w.heap.size ≤ x ∧ x < w'.heap.size)) : PK w0 w' b jb pb S Y := by
 obtain ⟨bw, bv, ov, K⟩ := h
 have hn : ∀ x, Pf pb bw bv ov x → ¬ P x := fun x q r => K.xn x (hP x r (K.jk.lt x (.inr q))) q
 refine ⟨bw, bv, ov, K.jk.poke ho (fun x q r => .inl (hP x q r)) hlo (fun x hx => ?_), K.blk.only ho (hn _ (.inl rfl)), K.tx.only ho (hn _ (.inr (.inl rfl))), K.hn.only ho (hn _ (.inr (.inr (.inl rfl)))) (fun x hx => hn x (.inr (.inr (.inr hx)))), K.ne, K.lo1, K.lo2, K.lo3, fun x hx q => ?_, K.hk, K.kp, K.t16, K.tok⟩
 ·rcases hx with q | q
  ·rcases hy x q with r | r
   ·exact .inl (.inl r)
   ·exact .inr r
  ·exact .inl (.inr q)
 ·rcases hy x hx with r | r
  ·exact K.xn x r q
  ·have := K.jk.lt x (.inr q); omega
end Go.Proofs.YtiellebdliifdaaGreatDoor
namespace Go.Proofs.YtiellebdliifdaaGreatDoor
open Go.RowKit Go.Maps Go.Sort Go.Shelf
theorem psize_any (w : World) (base b : Nat) (v : DV) (s : DSt) (h : Dk w base b v s) (pb jb : Nat) (op : Bool) (bw keep bv : Nat) (ov : Value) (hits mis : Int) (lost : Bool) (hB : Blk w pb (Pcs b jb op bw keep bv ov hits mis lost) 66) :
  Calls Tryz.prog 118 #[.pointer (some ⟨pb, 0, none⟩)] w fun e w' => e = .returned (.int .i64 (s.last.length : Int)) ∧ w' = w := by
 have c0 : w.cell? ⟨pb, 0, none⟩ = some (.pointer (some ⟨b, 0, none⟩)) := by rw [hB.cell]; rfl
 have HS := hide (size_any w base b v s h)
 clear hB h
 go_enter Tryz.func118, Tryz.ntmps118
 go_wp2_with (go_at_call 81; refine (unhide HS).mono ?_; rintro e w' ⟨rfl, rfl⟩)
 go_ret
 exact ⟨rfl, rfl⟩
theorem PKi.size {w0 w : World} {b jb pb : Nat} {S : PS} {X : Nat → Prop} {bw bv : Nat} {ov : Value} (K : PKi w0 w b jb pb S X bw bv ov) :
  Calls Tryz.prog 118 #[.pointer (some ⟨pb, 0, none⟩)] w fun e w' => e = .returned (.int .i64 (S.s.last.length : Int)) ∧ w' = w := by
 obtain ⟨v, hd⟩ := K.jk.dk
 exact psize_any w _ b v _ hd pb _ _ _ _ _ _ _ _ _ K.blk
def hasB (s : DSt) (i : Int) : Bool := decide (0 ≤ i) && decide (i < (s.last.length : Int))
theorem PKi.has {w0 w : World} {b jb pb : Nat} {S : PS} {X : Nat → Prop} {bw bv : Nat} {ov : Value} (K : PKi w0 w b jb pb S X bw bv ov) (i : Int) :
  Calls Tryz.prog 177 #[.pointer (some ⟨pb, 0, none⟩), .int .i64 i] w fun e w' => e = .returned (.bool (hasB S.s i)) ∧ w' = w := by
 have HS := hide K.size
 have HB := hide (show hasB S.s i = (decide (0 ≤ i) && decide (i < (S.s.last.length : Int))) from rfl)
 clear K
 generalize (S.s.last.length : Int) = n at *
 generalize hasB S.s i = q at *
 by_cases h0 : 0 ≤ i
 ·have hd : decide ((0 : Int) ≤ i) = true := by simpa using h0
  go_enter Tryz.func177, Tryz.ntmps177
  go_wp2_with (go_at_call 118; refine (unhide HS).mono ?_; rintro e w' ⟨rfl, rfl⟩)
  go_ret
  have := unhide HB
  rw [hd] at this
  exact ⟨by rw [this]; simp, rfl⟩
 ·have hd : decide ((0 : Int) ≤ i) = false := by simpa using h0
  go_enter Tryz.func177, Tryz.ntmps177
  go_wp2
  go_ret
  have := unhide HB
  rw [hd] at this
  exact ⟨by rw [this]; simp, rfl⟩
def beginE (S : PS) : Int := if S.op then 60 else if S.lost then 2 else 0
def beginS (S : PS) : PS := if S.op then S else if S.lost then S else { S with op := true }
theorem PKi.store {w0 w : World} {b jb pb : Nat} {S : PS} {X : Nat → Prop} {bw bv : Nat} {ov : Value} (K : PKi w0 w b jb pb S X bw bv ov) (o : Nat) (u : Value) (S' : PS) (hc : (Pcs b jb S.op bw S.keep bv ov S.hits S.mis S.lost).setIfInBounds o u = Pcs b jb S'.op bw S.keep bv ov S'.hits S'.mis S'.lost) (e1 : S'.s = S.s) (e2 : S'.nx = S.nx) (e3 : S'.jl = S.jl) (e4 : S'.keep = S.keep) (e5 : S'.tx = S.tx) (e6 : S'.h = S.h) :
  PKi w0 (w.setCell ⟨pb, o, none⟩ u) b jb pb S' X bw bv ov ∧ Only (fun x => ¬ X x) w (w.setCell ⟨pb, o, none⟩ u) := by
 have hO : Only (fun x => x = pb) w (w.setCell ⟨pb, o, none⟩ u) := (Only.refl _ _).setCell _ _ (fun _ => rfl)
 have hB := K.blk.set o u
 rw [hc] at hB
 have hbw : bw ≠ pb := fun q => K.tx.not_blk K.blk q.symm
 have hbv : bv ≠ pb := fun q => by obtain ⟨L, _, hm⟩ := K.hn.mp; exact hm.not_blk K.blk q.symm
 have hop : ov.ownBlock ≠ some pb := K.blk.not_row (by decide) K.hn.ord
 refine ⟨⟨?_, by rw [e4]; exact hB, by rw [e5]; exact K.tx.only hO hbw, by rw [e6]; exact K.hn.only hO hbv (fun x hx q => hop (by rw [hx, q])), K.ne, K.lo1, K.lo2, K.lo3, K.xn, by rw [e6, e4]; exact K.hk, by rw [e4]; exact K.kp, by rw [e5]; exact K.t16, by rw [e5, e1]; exact K.tok⟩, hO.mono (fun x _ q r => K.xn x r (.inl q))⟩
 rw [e1, e2, e3]
 exact K.jk.poke hO (fun x q _ => .inr (.inl q)) (fun x q => by rw [q]; exact K.lo1) (fun x hx => .inl hx)
theorem pbegin_any {w0 w : World} {b jb pb : Nat} {S : PS} {X : Nat → Prop} (K : PK w0 w b jb pb S X) :
  Calls Tryz.prog 8 #[.pointer (some ⟨pb, 0, none⟩)] w fun e w' => e = .returned (.int .i64 (beginE S)) ∧ PK w0 w' b jb pb (beginS S) X ∧ Only (fun x => ¬ X x) w w' := by
 obtain ⟨bw, bv, ov, K⟩ := K
 have c2 : w.cell? ⟨pb, 2, none⟩ = some (.bool S.op) := by rw [K.blk.cell]; rfl
 have c9 : w.cell? ⟨pb, 9, none⟩ = some (.bool S.lost) := by rw [K.blk.cell]; rfl
 have f2 : w.frozen? ⟨pb, 2, none⟩ = false := K.blk.frozen 2
 cases ho : S.op with
 | true =>
  rw [ho] at c2
  have HR := hide (show beginE S = 60 ∧ beginS S = S from by simp [beginE, beginS, ho])
  have HK := hide K
  clear K ho
  go_enter Tryz.func8, Tryz.ntmps8
  go_wp2
  go_ret
  rw [(unhide HR).1, (unhide HR).2]
  exact ⟨rfl, (unhide HK).same⟩
 | false =>
  rw [ho] at c2
  cases hl : S.lost with
  | true =>
   rw [hl] at c9
   have HR := hide (show beginE S = 2 ∧ beginS S = S from by simp [beginE, beginS, ho, hl])
   have HK := hide K
   clear K ho hl
   go_enter Tryz.func8, Tryz.ntmps8
   go_wp2
   go_ret
   rw [(unhide HR).1, (unhide HR).2]
   exact ⟨rfl, (unhide HK).same⟩
  | false =>
   rw [hl] at c9
   have HR := hide (show beginE S = 0 ∧ beginS S = { S with op := true } from by simp [beginE, beginS, ho, hl])
   have hK := K.store 2 (.bool true) { S with op := true } rfl rfl rfl rfl rfl rfl rfl
   have HK := hide (show PK w0 (w.setCell ⟨pb, 2, none⟩ (.bool true)) b jb pb { S with op := true } X ∧ Only (fun x => ¬ X x) w (w.setCell ⟨pb, 2, none⟩ (.bool true)) from ⟨⟨bw, bv, ov, hK.1⟩, hK.2⟩)
   clear K ho hl hK
   go_enter Tryz.func8, Tryz.ntmps8
   go_wp2
   go_ret
   rw [(unhide HR).1, (unhide HR).2]
   exact ⟨rfl, unhide HK⟩
def endS (S : PS) : PS := { S with op := false, tx := [] }
set_option maxRecDepth 100000 in
set_option maxHeartbeats 1000000 in
theorem pend_any {w0 w : World} {b jb pb : Nat} {S : PS} {X : Nat → Prop} {bw bv : Nat} {ov : Value} (K : PKi w0 w b jb pb S X bw bv ov) :
  Calls Tryz.prog 30 #[.pointer (some ⟨pb, 0, none⟩)] w fun e w' => e = .returned (.tuple #[]) ∧ PKi w0 w' b jb pb (endS S) X bw bv ov ∧ Only (fun x => x = pb ∨ x = bw) w w' := by
 have c2 : w.cell? ⟨pb, 2, none⟩ = some (.bool S.op) := by rw [K.blk.cell]; rfl
 have f2 : w.frozen? ⟨pb, 2, none⟩ = false := K.blk.frozen 2
 obtain ⟨K1, _⟩ := K.store 2 (.bool false) { S with op := false } rfl rfl rfl rfl rfl rfl rfl
 have hO1 : Only (fun x => x = pb ∨ x = bw) w (w.setCell ⟨pb, 2, none⟩ (.bool false)) := (Only.refl _ _).setCell _ _ (fun _ => .inl rfl)
 obtain ⟨w2, hrun, hm2, hO2, hs2⟩ := K1.tx.clear 0
 have c3 : w.cell? ⟨pb, 3, none⟩ = some (.map (some bw)) := by rw [K.blk.cell]; rfl
 have hpw : pb ≠ bw := K1.tx.not_blk K1.blk
 have hov : ∀ x, ov.ownBlock = some x → ¬ x = bw := fun x hx q => K1.tx.not_row K1.hn.ord (by rw [hx, q])
 have HR := hide (show PKi w0 w2 b jb pb (endS S) X bw bv ov ∧ Only (fun x => x = pb ∨ x = bw) w w2 from by
  refine ⟨⟨?_, K1.blk.only hO2 (fun q => hpw q), hm2, K1.hn.only hO2 (fun q => K1.ne q.symm) hov, K1.ne, K1.lo1, K1.lo2, K1.lo3, K1.xn, K1.hk, K1.kp, Nat.zero_le _, fun p hp => by cases hp⟩, hO1.trans hO2 (fun x _ q => .inr q)⟩
  exact K1.jk.poke hO2 (fun x q _ => .inr (.inr (.inl q))) (fun x q => by rw [q]; exact K1.lo2) (fun x hx => .inl hx))
 clear K K1 hO1 hO2 hs2 hm2 hpw hov
 go_enter Tryz.func30, Tryz.ntmps30
 go_wp2
 go_end0
 exact ⟨rfl, unhide HR⟩
def abortE (S : PS) : Int := if S.op then 0 else 61
def abortS (S : PS) : PS := if S.op then endS S else S
theorem pabort_any {w0 w : World} {b jb pb : Nat} {S : PS} {X : Nat → Prop} (K : PK w0 w b jb pb S X) :
  Calls Tryz.prog 98 #[.pointer (some ⟨pb, 0, none⟩)] w fun e w' => e = .returned (.int .i64 (abortE S)) ∧ PK w0 w' b jb pb (abortS S) X ∧ Only (fun x => ¬ X x) w w' := by
 obtain ⟨bw, bv, ov, K⟩ := K
 have c2 : w.cell? ⟨pb, 2, none⟩ = some (.bool S.op) := by rw [K.blk.cell]; rfl
 cases ho : S.op with
 | false =>
  rw [ho] at c2
  have HR := hide (show abortE S = 61 ∧ abortS S = S from by simp [abortE, abortS, ho])
  have HK := hide K
  clear K ho
  go_enter Tryz.func98, Tryz.ntmps98
  go_wp2
  go_ret
  rw [(unhide HR).1, (unhide HR).2]
  exact ⟨rfl, (unhide HK).same⟩
 | true =>
  rw [ho] at c2
  have HR := hide (show abortE S = 0 ∧ abortS S = endS S from by simp [abortE, abortS, ho])
  have HE := hide (pend_any K)
  have HXn := hide K.xn
  clear K ho
  go_enter Tryz.func98, Tryz.ntmps98
  go_wp2_with (go_at_call 30; refine (unhide HE).mono ?_; rintro e w' ⟨rfl, hk, ho⟩)
  go_ret
  rw [(unhide HR).1, (unhide HR).2]
  refine ⟨rfl, ⟨bw, bv, ov, hk⟩, ho.mono (fun x _ q r => (unhide HXn) x r ?_)⟩
  rcases q with q | q
  ·exact .inl q
  ·exact .inr (.inl q)
end Go.Proofs.YtiellebdliifdaaGreatDoor
namespace Go.Proofs.YtiellebdliifdaaGreatDoor
open Go.RowKit Go.Maps Go.Sort Go.Shelf
theorem Mp.look_size {w : World} {b : Nat} {l : Tx} (h : Mp w b l) {k : Int} (hk : I64k k) : ((txAt l k).getD ByteArray.empty).size ≤ maxLen := by
 have hz0 : plainElem (H := Unit) Tryz.prog 9 (.string ByteArray.empty) = some (litS ByteArray.empty, []) := plainElem_string Tryz.underlying9 (by decide)
 obtain ⟨v, ps, hrun, hv⟩ := h.1.lookup law3 Tryz.underlying62 (zero9 w) hz0 (key3 hk)
 have h2 := (h.look hk).2
 rw [hrun] at h2
 injection h2 with h2 _
 subst h2
 obtain ⟨c, e, _, hc⟩ := plainElem_string_inv Tryz.underlying9 hv
 injection e with e
 rw [e]; exact hc
def inc (x : Int) : Int := IntKind.i64.wrap (x + 1)
def missS (S : PS) (i : Int) : PS := { S with mis := inc S.mis, h := hLay S.keep i (readT S.s i) S.h }
def hitS (S : PS) (i : Int) (t : ByteArray) : PS := { S with hits := inc S.hits, h := hLay S.keep i t S.h }
def lostS (S : PS) : PS := { S with lost := true }
def readP (S : PS) (i : Int) : ByteArray × Int × PS :=
 if hasB S.s i = false then (⟨#[]⟩, 41, S)
 else if S.lost then (⟨#[]⟩, 2, S)
 else match txAt S.tx i with
  | some t => (t, 0, S)
  | none => match txAt S.h i with
   | some t => (t, 0, hitS S i t)
   | none => if readE S.s i = 0 then (readT S.s i, 0, missS S i) else (⟨#[]⟩, readE S.s i, lostS S)
theorem hasB_i64 {s : DSt} (hs : Sane s) {i : Int} (h : hasB s i = true) : I64k i := by
 have := hs.cap
 simp [hasB] at h
 exact ⟨by omega, by omega⟩
theorem Hb.pf {pb bw bv : Nat} {ov : Value} {x : Nat} (h : Hb pb bv ov x) : Pf pb bw bv ov x := by
 rcases h with q | q | q
 ·exact .inl q
 ·exact .inr (.inr (.inl q))
 ·exact .inr (.inr (.inr q))
theorem PKi.lay {w0 w : World} {b jb pb : Nat} {S : PS} {X : Nat → Prop} {bw bv : Nat} {ov : Value} (K : PKi w0 w b jb pb S X bw bv ov) (k : Int) (hk : I64k k) (s : ByteArray) (hs : s.size ≤ maxLen) :
  Calls Tryz.prog 33 #[.pointer (some ⟨pb, 4, none⟩), .int .i64 k, .string s] w fun e w' => e = .returned (.tuple #[]) ∧ PK w0 w' b jb pb { S with h := hLay S.keep k s S.h } X ∧ Only (fun x => ¬ X x) w w' := by
 refine (hlay_any w w0.heap.size pb b jb S.op bw S.keep bv ov S.hits S.mis S.lost S.h K.blk K.hn K.jk.bel.size k hk s hs K.hk K.kp).mono ?_
 rintro e w' ⟨rfl, ov', r1, r2, r3, r4⟩
 have hp1 : ¬ Hb pb bv ov bw := by
  rintro (q | q | q)
  ·exact K.tx.not_blk K.blk q.symm
  ·exact K.ne q
  ·exact K.tx.not_row K.hn.ord q
 exact ⟨rfl, K.upd (r3.mono (fun x _ q => q.pf)) ov' r4 { S with h := hLay S.keep k s S.h } rfl rfl rfl rfl r1 (K.tx.only r3 hp1) r2 (hLay_len _ _ _ _) K.t16 K.tok⟩
set_option maxRecDepth 100000 in
set_option maxHeartbeats 1000000 in
theorem fetch_any {w0 w : World} {b jb pb : Nat} {S : PS} {X : Nat → Prop} {bw bv : Nat} {ov : Value} (K : PKi w0 w b jb pb S X bw bv ov) (i : Int) (hi : I64k i) (hT : (readT S.s i).size ≤ maxLen) :
  Calls Tryz.prog 179 #[.pointer (some ⟨pb, 0, none⟩), .int .i64 i] w fun e w' => e = .returned (.tuple #[.string (if readE S.s i = 0 then readT S.s i else ⟨#[]⟩), .int .i64 (readE S.s i)]) ∧ PK w0 w' b jb pb (if readE S.s i = 0 then missS S i else lostS S) X ∧ Only (fun x => ¬ X x) w w' := by
 obtain ⟨v, hd⟩ := K.jk.dk
 have HR := hide (read_any w _ b v S.s hd K.jk.sane.same i)
 have c0 : w.cell? ⟨pb, 0, none⟩ = some (.pointer (some ⟨b, 0, none⟩)) := by rw [K.blk.cell]; rfl
 have c8 : w.cell? ⟨pb, 8, none⟩ = some (.int .i64 S.mis) := by rw [K.blk.cell]; rfl
 have c9 : w.cell? ⟨pb, 9, none⟩ = some (.bool S.lost) := by rw [K.blk.cell]; rfl
 have f8 : w.frozen? ⟨pb, 8, none⟩ = false := K.blk.frozen 8
 have f9 : w.frozen? ⟨pb, 9, none⟩ = false := K.blk.frozen 9
 by_cases he : readE S.s i = 0
 ·rw [if_pos he, if_pos he]
  rw [he] at HR ⊢
  obtain ⟨K1, hO1⟩ := K.store 8 (.int .i64 (inc S.mis)) { S with mis := inc S.mis } rfl rfl rfl rfl rfl rfl rfl
  have HL := hide (K1.lay i hi (readT S.s i) hT)
  have HI := hide (show IntKind.i64.wrap (S.mis + 1) = inc S.mis from rfl)
  have HO := hide hO1
  have HM := hide (show ({ ({ S with mis := inc S.mis } : PS) with h := hLay S.keep i (readT S.s i) S.h } : PS) = missS S i from rfl)
  clear K K1 hO1 hd hT he hi
  generalize readT S.s i = t at *
  obtain ⟨mi, hmi⟩ : ∃ m, inc S.mis = m := ⟨_, rfl⟩
  rw [hmi] at HI HO HL
  have hwr := unhide HI
  clear HI
  go_enter Tryz.func179, Tryz.ntmps179
  go_wp2_with (first
   | (go_at_call 163; refine (unhide HR).mono ?_; rintro e w' ⟨rfl, rfl⟩)
   | (go_at_call 33; refine (unhide HL).mono ?_; rintro e w' ⟨rfl, hk, ho⟩))
  go_ret2
  refine ⟨rfl, ?_, (unhide HO).trans ho (fun _ _ q => q)⟩
  rw [← unhide HM, hmi]
  exact hk
 ·rw [if_neg he, if_neg he]
  have hne : (readE S.s i != 0) = true := by simpa using he
  obtain ⟨K1, hO1⟩ := K.store 9 (.bool true) (lostS S) rfl rfl rfl rfl rfl rfl rfl
  have HL := hide (And.intro (show PK w0 _ b jb pb (lostS S) X from ⟨bw, bv, ov, K1⟩) hO1)
  clear K K1 hO1 hd hT he hi
  generalize readT S.s i = t at *
  generalize readE S.s i = er at *
  go_enter Tryz.func179, Tryz.ntmps179
  go_wp2_with (go_at_call 163; refine (unhide HR).mono ?_; rintro e w' ⟨rfl, rfl⟩)
  go_ret2
  exact ⟨rfl, unhide HL⟩
set_option maxRecDepth 100000 in
set_option maxHeartbeats 1000000 in
theorem pread_any {w0 w : World} {b jb pb : Nat} {S : PS} {X : Nat → Prop} (K : PK w0 w b jb pb S X) (i : Int) (hT : (readT S.s i).size ≤ maxLen) :
  Calls Tryz.prog 142 #[.pointer (some ⟨pb, 0, none⟩), .int .i64 i] w fun e w' => e = .returned (.tuple #[.string (readP S i).1, .int .i64 (readP S i).2.1]) ∧ PK w0 w' b jb pb (readP S i).2.2 X ∧ Only (fun x => ¬ X x) w w' := by
 obtain ⟨bw, bv, ov, K⟩ := K
 have HH := hide (K.has i)
 cases hh : hasB S.s i with
 | false =>
  rw [hh] at HH
  have HR := hide (show readP S i = (⟨#[]⟩, 41, S) from by unfold readP; rw [hh]; rfl)
  have HK := hide K
  clear K hh hT
  go_enter Tryz.func142, Tryz.ntmps142
  go_wp2_with (go_at_call 177; refine (unhide HH).mono ?_; rintro e w' ⟨rfl, rfl⟩)
  go_ret2
  rw [unhide HR]
  exact ⟨rfl, (unhide HK).same⟩
 | true =>
  rw [hh] at HH
  have hi := hasB_i64 K.jk.sane hh
  have c9 : w.cell? ⟨pb, 9, none⟩ = some (.bool S.lost) := by rw [K.blk.cell]; rfl
  have c3 : w.cell? ⟨pb, 3, none⟩ = some (.map (some bw)) := by rw [K.blk.cell]; rfl
  cases hl : S.lost with
  | true =>
   rw [hl] at c9
   have HR := hide (show readP S i = (⟨#[]⟩, 2, S) from by unfold readP; rw [hh, hl]; rfl)
   have HK := hide K
   clear K hh hT hl hi
   go_enter Tryz.func142, Tryz.ntmps142
   go_wp2_with (go_at_call 177; refine (unhide HH).mono ?_; rintro e w' ⟨rfl, rfl⟩)
   go_ret2
   rw [unhide HR]
   exact ⟨rfl, (unhide HK).same⟩
  | false =>
   rw [hl] at c9
   have hlk := (K.tx.look hi).1
   cases ht : txAt S.tx i with
   | some t =>
    rw [ht] at hlk
    simp only [Option.getD_some, Option.isSome_some] at hlk
    have HR := hide (show readP S i = (t, 0, S) from by unfold readP; rw [hh, hl, ht]; rfl)
    have HK := hide K
    clear K hh hT hl hi ht
    go_enter Tryz.func142, Tryz.ntmps142
    go_wp2_with (go_at_call 177; refine (unhide HH).mono ?_; rintro e w' ⟨rfl, rfl⟩)
    go_ret2
    rw [unhide HR]
    exact ⟨rfl, (unhide HK).same⟩
   | none =>
    rw [ht] at hlk
    simp only [Option.getD_none, Option.isSome_none] at hlk
    have HF := hide (hfind_any w _ pb b jb S.op bw S.keep bv ov S.hits S.mis S.lost S.h K.blk K.hn i hi)
    cases hf : txAt S.h i with
    | some t =>
     rw [hf] at HF
     simp only [Option.getD_some, Option.isSome_some] at HF
     have hts : t.size ≤ maxLen := by
      obtain ⟨L, hp, hm⟩ := K.hn.mp
      have := hm.look_size hi
      rw [← at_perm hm.2.nd hp i, hf] at this
      exact this
     have HR := hide (show readP S i = (t, 0, hitS S i t) from by unfold readP; rw [hh, hl, ht]; simp only [hf]; rfl)
     have c7 : w.cell? ⟨pb, 7, none⟩ = some (.int .i64 S.hits) := by rw [K.blk.cell]; rfl
     have f7 : w.frozen? ⟨pb, 7, none⟩ = false := K.blk.frozen 7
     obtain ⟨K1, hO1⟩ := K.store 7 (.int .i64 (inc S.hits)) { S with hits := inc S.hits } rfl rfl rfl rfl rfl rfl rfl
     have HL := hide (K1.lay i hi t hts)
     have HO := hide hO1
     have HM := hide (show ({ ({ S with hits := inc S.hits } : PS) with h := hLay S.keep i t S.h } : PS) = hitS S i t from rfl)
     obtain ⟨mi, hmi⟩ : ∃ m, inc S.hits = m := ⟨_, rfl⟩
     have hwr : IntKind.i64.wrap (S.hits + 1) = mi := hmi
     rw [hmi] at HO HL
     clear K K1 hO1 hh hT hl hi ht hf hts
     go_enter Tryz.func142, Tryz.ntmps142
     go_wp2_with (first
      | (go_at_call 177; refine (unhide HH).mono ?_; rintro e w' ⟨rfl, rfl⟩)
      | (go_at_call 178; refine (unhide HF).mono ?_; rintro e w' ⟨rfl, rfl⟩)
      | (go_at_call 33; refine (unhide HL).mono ?_; rintro e w' ⟨rfl, hk, ho⟩))
     go_ret2
     rw [unhide HR]
     refine ⟨rfl, ?_, (unhide HO).trans ho (fun _ _ q => q)⟩
     show PK _ _ _ _ _ (hitS S i t) _
     rw [← unhide HM, hmi]
     exact hk
    | none =>
     rw [hf] at HF
     simp only [Option.getD_none, Option.isSome_none] at HF
     have HFE := hide (fetch_any K i hi hT)
     have HR := hide (show readP S i = (if readE S.s i = 0 then readT S.s i else ⟨#[]⟩, readE S.s i, if readE S.s i = 0 then missS S i else lostS S) from by
      unfold readP
      rw [hh, hl, ht]
      simp only [hf]
      by_cases h0 : readE S.s i = 0
      ·simp [h0]
      ·simp [h0])
     clear K hh hT hl hi ht hf
     generalize (if readE S.s i = 0 then readT S.s i else ⟨#[]⟩) = t at *
     generalize readE S.s i = er at *
     go_enter Tryz.func142, Tryz.ntmps142
     go_wp2_with (first
      | (go_at_call 177; refine (unhide HH).mono ?_; rintro e w' ⟨rfl, rfl⟩)
      | (go_at_call 178; refine (unhide HF).mono ?_; rintro e w' ⟨rfl, rfl⟩)
      | (go_at_call 179; refine (unhide HFE).mono ?_; rintro e w' ⟨rfl, hk, ho⟩))
     go_ret2
     rw [unhide HR]
     exact ⟨rfl, hk, ho⟩
end Go.Proofs.YtiellebdliifdaaGreatDoor
