import Derived.Test.YtjlgbafcpoakmaaGreatDoorMf29
namespace Go.Proofs.YtjlgbafcpoakmaaGreatDoor
open Go.RowKit Go.Maps Go.Sort Go.Shelf
theorem VSt.lts {w0 w : World} {b jb pb mb sb gb : Nat} {Z : Nat → Prop} {n kp q : Nat} {L : List ByteArray} {A : List (Nat × Nat)} {hn mw : Nat} {Vw : Nat → Vol} {Tw : Nat → Bool} {m : Nat} {V : Nat → Vol} {T : Nat → Bool} {op : Bool} (h : VSt w0 w b jb pb mb sb gb Z n kp q op L A hn mw Vw Tw m V T) : mb < w.heap.size ∧ sb < w.heap.size ∧ gb < w.heap.size := by
  obtain ⟨S, Mw, Mn, tb, h1, h2, h3, h4, h5⟩ := h
  exact ⟨h1.bg.pk.lt mb h1.bg.xm, h1.st.lt, h5.lt⟩
/-- Blocks of the law's own are written, others are fenced. -/
theorem VSt.grown {w0 w : World} {b jb pb mb sb gb : Nat} {Z : Nat → Prop} {n kp q : Nat} {L : List ByteArray} {A : List (Nat × Nat)} {hn mw : Nat} {Vw : Nat → Vol} {Tw : Nat → Bool} {m : Nat} {V : Nat → Vol} {T : Nat → Bool} {op : Bool} (h : VSt w0 w b jb pb mb sb gb Z n kp q op L A hn mw Vw Tw m V T) {w' : World} {P Y : Nat → Prop} (hO : Only P w w') (hP : ∀ x, P x → Z x ∧ w0.heap.size ≤ x ∧ x ≠ mb ∧ x ≠ sb ∧ x ≠ gb) (hy : ∀ x, Y x → Z x ∨ (w.heap.size ≤ x ∧ x < w'.heap.size)) : VSt w0 w' b jb pb mb sb gb Y n kp q op L A hn mw Vw Tw m V T := by
  obtain ⟨S, Mw, Mn, tb, h1, h2, h3, h4, h5⟩ := h
  refine ⟨S, Mw, Mn, tb, ⟨h1.bg.poke hO (fun x hx _ => .inr (.inr (hP x hx).1)) (fun x hx => (hP x hx).2.1) (fun x q => ?_) (.inl (.inl rfl)) (fun q => (hP mb q).2.2.1 rfl), h1.st.only hO (fun q => (hP sb q).2.2.2.1 rfl), .inl (.inr rfl), h1.n88⟩, h2, h3, h4, h5.only hO (fun q => (hP gb q).2.2.2.2 rfl)⟩
  rcases q with q | q | q
  · exact .inl (.inl q)
  · exact .inl (.inr (.inl q))
  · exact (hy x q).imp_left (fun r => .inr (.inr r))
def VN : Nat → Nat → Vol
  | 0 => V0
  | i + 1 => ups (VN i) i (Vol.new i (100 * (1 + i) + i))
theorem VN_r : ∀ i j, j < i → (VN i j).r = j := fun i => by
  induction i with
  | zero => intro j hj; omega
  | succ i ih =>
    intro j hj
    by_cases e : j = i
    · subst e; show (ups (VN j) j _ j).r = j; rw [ups_same]; rfl
    · show (ups (VN i) i _ j).r = j; rw [ups_other _ _ e]; exact ih j (by omega)
theorem VN_e : ∀ i j b, (VN i j).e b = none := fun i => by
  induction i with
  | zero => intro j b; rfl
  | succ i ih =>
    intro j b
    by_cases e : j = i
    · subst e; show (ups (VN j) j _ j).e b = none; rw [ups_same]; rfl
    · show (ups (VN i) i _ j).e b = none; rw [ups_other _ _ e]; exact ih j b
def Zv (Z : Nat → Prop) (u : Value) (x : Nat) : Prop := Z x ∨ u.ownBlock = some x
def VLs (w0 w : World) (b jb pb mb sb gb : Nat) (Z : Nat → Prop) (n kp : Nat) (L : List ByteArray) (A : List (Nat × Nat)) (hn mw : Nat) (Vw : Nat → Vol) (Tw : Nat → Bool) (i : Nat) (u : Value) (wr : World) : Prop :=
  wr.ownsRow w.heap.size 3 1 u i ((List.range i).map (fun (j : Nat) => Value.int .i64 (j : Int))) ∧ VSt w0 wr b jb pb mb sb gb (Zv Z u) n kp (2 * i) true L A hn mw Vw Tw i (VN i) (Tb i) ∧ Only (fun x => ¬ Z x) w wr
theorem VLs.grow {w0 w : World} {b jb pb mb sb gb : Nat} {Z : Nat → Prop} {n kp : Nat} {L : List ByteArray} {A : List (Nat × Nat)} {hn mw : Nat} {Vw : Nat → Vol} {Tw : Nat → Bool} {i : Nat} {u : Value} {wr : World} {w1 w' : World} (hO : wr.ownsRow w.heap.size 3 1 u i ((List.range i).map (fun (j : Nat) => Value.int .i64 (j : Int)))) (h : VSt w0 wr b jb pb mb sb gb (Zv Z u) n kp (2 * i + 2) true L A hn mw Vw Tw (i + 1) (VN (i + 1)) (Tb (i + 1))) (h3 : Only (fun x => ¬ Z x) w wr) (hb : Below wr.heap.size wr w1) {g len cap : Nat} (ho : w'.ownsRow w.heap.size 3 1 (.slice (some ⟨g, 0, none⟩) len cap) (i + 1) (((List.range i).map (fun (j : Nat) => Value.int .i64 (j : Int))) ++ [.int .i64 (i : Int)])) (hg : w1.grownBy w' u.ownBlock) (hgg : u.ownBlock = some g ∨ g = w1.heap.size) (hgl : g < w'.heap.size) (hZ : ∀ x, Z x → x < w.heap.size) (hw : w0.heap.size ≤ w.heap.size) (hl : mb < w.heap.size ∧ sb < w.heap.size ∧ gb < w.heap.size) : VLs w0 w b jb pb mb sb gb Z n kp L A hn mw Vw Tw (i + 1) (.slice (some ⟨g, 0, none⟩) len cap) w' := by
  have hO1 : Only (fun q => u.ownBlock = some q) w1 w' := (Only.refl _ _).grown hg (fun q _ e => e)
  have hlo : ∀ x, u.ownBlock = some x → w.heap.size ≤ x := fun x hx => (hO.lt x hx).1
  unfold VLs
  rw [List.range_succ, List.map_append]
  refine ⟨ho, (h.below hb).grown hO1 (fun x hx => ⟨.inr hx, by have := hlo x hx; omega, by have := hlo x hx; omega, by have := hlo x hx; omega, by have := hlo x hx; omega⟩) (fun x hx => ?_), (h3.trans (Only.of_below (P := fun x => ¬ Z x) hb) (fun _ _ q => q)).trans hO1 (fun x hx q r => by have := hlo x q; have := hZ x r; omega)⟩
  rcases hx with q | q
  · exact .inl (.inl q)
  · have e : g = x := by simpa [Value.ownBlock] using q
    subst e
    rcases hgg with r | r
    · exact .inl (.inr r)
    · exact .inr ⟨by omega, hgl⟩
set_option maxRecDepth 100000 in
set_option maxHeartbeats 2000000 in
theorem volumes_any {w0 w : World} {b jb pb mb sb gb : Nat} {Z : Nat → Prop} {n kp : Nat} {L : List ByteArray} {A : List (Nat × Nat)} {hn mw : Nat} {Vw : Nat → Vol} {Tw : Nat → Bool} (h : VSt w0 w b jb pb mb sb gb Z n kp 0 false L A hn mw Vw Tw 0 V0 (Tb 0)) (nv : Nat) (hnv : nv ≤ 5) (hvn : nv ≤ n) (hZ : ∀ x, Z x → x < w.heap.size) (ha : A.length ≤ 1000000) : Calls Tryz.prog 10 #[.pointer (some ⟨gb, 0, none⟩), .int .i64 (nv : Int)] w fun e w' => ∃ v, e = .returned v ∧ w'.ownsRow w.heap.size 3 1 v nv ((List.range nv).map (fun (j : Nat) => Value.int .i64 (j : Int))) ∧ (∃ L' A', A'.length ≤ A.length + 38 ∧ VSt w0 w' b jb pb mb sb gb (Zv Z v) n kp 0 false L' A' ((hn + 1) % 4294967296) nv (VN nv) (Tb nv) nv (VN nv) (Tb nv)) ∧ Only (fun x => ¬ Z x) w w' := by
  obtain ⟨i0, hi, hz0, hz1, hz2⟩ := info_parts infoI3
  have HI := hide (And.intro hi (And.intro hz0 (And.intro hz1 hz2)))
  clear hi hz0 hz1 hz2
  obtain ⟨c0, c1, c2, c3⟩ := h.c
  have HBE := hide h.begin
  have HXX := hide (show (∀ x, Z x → x < w.heap.size) ∧ w0.heap.size ≤ w.heap.size ∧ mb < w.heap.size ∧ sb < w.heap.size ∧ gb < w.heap.size from ⟨hZ, h.bel.size, h.lts⟩)
  clear h hZ c0 c2 c3
  go_enter Tryz.func10, Tryz.ntmps10
  go_wp2_with fail
  refine (unhide HBE).mono ?_
  rintro e x1 ⟨rfl, V1, O1⟩
  have X0 := hide (show VLs w0 w b jb pb mb sb gb Z n kp L A hn mw Vw Tw 0 (.slice none 0 0) x1 from ⟨World.ownsRow_nil _ _ _ _, V1.less (fun x hx => by
    rcases hx with q | q
    · exact q
    · simp [Value.ownBlock] at q), O1⟩)
  clear V1 O1 HBE c1
  go_wp2
  go_loopw [6, 7] (fun u i wr => ∃ k : Nat, k ≤ nv ∧ i = .int .i64 (k : Int) ∧ VLs w0 w b jb pb mb sb gb Z n kp L A hn mw Vw Tw k u wr) (fun _ i _ => nv - (intOf i).toNat)
  case atStart => exact ⟨0, by omega, rfl, unhide X0⟩
  case round =>
    obtain ⟨k, hk, rfl, hI⟩ := hrel
    obtain ⟨wo, rfl⟩ : ∃ wo, wo = wr := ⟨_, rfl⟩
    clear X0
    obtain ⟨pv, cv, rfl, hcv⟩ := row_form hI.1
    obtain ⟨c0, c1, c2, c3⟩ := hI.2.1.c
    by_cases hkn : k < nv
    · have hkn' : (k : Int) < (nv : Int) := by omega
      have HCR := hide (hI.2.1.create (by omega) (1 + k) k (by omega) (by omega) (by omega) k (Tb_lea k n (by omega)))
      rw [Tb_flp] at HCR
      rw [show (((1 + k : Nat) : Int)) = 1 + (k : Int) by omega] at HCR
      have HJ := hide hI
      clear hI hcv c0 c1 c2
      go_wp2_with fail
      refine (unhide HCR).mono ?_
      rintro e y1 ⟨rfl, hV1, O1⟩
      have HO1 := hide (show y1.ownsRow w.heap.size 3 1 (.slice pv k cv) k ((List.range k).map (fun (j : Nat) => Value.int .i64 (j : Int))) from owns_only (unhide HJ).1 O1 (fun x hx q => q (.inr hx)))
      have HRA := hide (show (y1.alloc (.cells #[.int .i64 (k : Int)] 3)).ownsRow w.heap.size 3 1 (.slice pv k cv) k ((List.range k).map (fun (j : Nat) => Value.int .i64 (j : Int))) from (unhide HO1).alloc _)
      have HV1 := hide (And.intro hV1 (show Only (fun x => ¬ Z x) w y1 from (unhide HJ).2.2.trans O1 (fun x _ q r => q (.inl r))))
      have hws1 : w.heap.size ≤ y1.heap.size := (unhide HV1).2.size
      clear hV1 O1 HJ HCR c3
      go_wp2_with (refine wpList_append_lies _ rfl (.tmp 34) (.tmp 36) 22 rfl w.heap.size 3 i0 (.int .i64 0) 1 8 Tryz.underlying22 (unhide HI).1 (unhide HI).2.1 (unhide HI).2.2.1 (unhide HI).2.2.2 rfl (by decide) _ k ((List.range k).map (fun (j : Nat) => Value.int .i64 (j : Int))) rfl (unhide HRA) ⟨y1.heap.size, 0, none⟩ 1 1 [.int .i64 (k : Int)] rfl rfl (fun q u hu => news_one y1 3 _ q u hu) (by simp [Value.oneCell']) (by decide) (by unfold maxLen; omega) (by omega) (by simp; omega) (y1.heap.size + 1) (by simp) ?_)
      intro g5 cap5 x5 ho5 hg5 hgg hgl
      have HRR := hide (show VLs w0 w b jb pb mb sb gb Z n kp L A hn mw Vw Tw (k + 1) (.slice (some ⟨g5, 0, none⟩) (k + 1) cap5) x5 from by
        refine VLs.grow (unhide HO1) (unhide HV1).1 (unhide HV1).2 ((Below.refl _ y1).alloc (Nat.le_refl _) (.cells #[.int .i64 (k : Int)] 3)) ho5 hg5 (by
            rcases hgg with q | q
            · exact .inl q
            · exact .inr (by rw [q]; simp)) hgl (unhide HXX).1 (unhide HXX).2.1 (unhide HXX).2.2)
      clear ho5 hg5 hgg hgl HRA HV1 HO1
      go_wp2
      go_roundw
      case rel => exact ⟨k + 1, by omega, by go_num, unhide HRR⟩
      case measure => simp [intOf]; omega
    · obtain rfl : k = nv := by omega
      have hkn' : ¬ (k : Int) < (k : Int) := by omega
      have HCM := hide (hI.2.1.commit ha)
      have HJ := hide hI
      clear hI hcv c0 c2 c3
      go_wp2_with fail
      refine (unhide HCM).mono ?_
      rintro e y1 ⟨rfl, ⟨L', A', hA', hV'⟩, O1⟩
      have HR := hide (And.intro (show y1.ownsRow w.heap.size 3 1 (.slice pv k cv) k ((List.range k).map (fun (j : Nat) => Value.int .i64 (j : Int))) from owns_only (unhide HJ).1 O1 (fun x hx q => q (.inr hx))) (And.intro hA' (And.intro hV' (show Only (fun x => ¬ Z x) w y1 from (unhide HJ).2.2.trans O1 (fun x _ q r => q (.inl r))))))
      clear hA' hV' O1 HJ HCM
      go_wp2
      go_ret
      exact ⟨_, rfl, (unhide HR).1, ⟨L', A', (unhide HR).2.1, (unhide HR).2.2.1⟩, (unhide HR).2.2.2⟩
end Go.Proofs.YtjlgbafcpoakmaaGreatDoor
