import Derived.Test.YtclgkgaobjcifaaGreatDoorMy12
namespace Go.Proofs.YtclgkgaobjcifaaGreatDoor
open Go.RowKit
set_option maxRecDepth 100000
/-- may a field be this part, whose list says so? and its bytes -/
def okG (f : Fld) (p : Prt) (V Pl : List Int) : Bool := if f.k = 2 then plB Pl else if f.k = 3 then voB V else okF f p
def byG (f : Fld) (p : Prt) (V Pl : List Int) : List Int := if f.k = 2 then outN 1 Pl else if f.k = 3 then voL V else byF f p
/-- fields laid down: what is left of the reply, and the bytes -/
def layG (V Pl : List Int) : List Fld → Rep → Option (Rep × List Int)
  | [], r => some (r, [])
  | f :: fs, r => if okG f (exr f r Prt.nil).2 V Pl then (layG V Pl fs (exr f r Prt.nil).1).map (fun x => (x.1, byG f (exr f r Prt.nil).2 V Pl ++ x.2)) else none
def lgB (kd : Int) (r : Rep) (V Pl : List Int) : Bool := match layG V Pl (rpF kd) r with | none => false | some x => bareP x.1
def lgL (kd : Int) (r : Rep) (V Pl : List Int) : List Int := match layG V Pl (rpF kd) r with | none => [] | some x => x.2
theorem voL_len {V : List Int} (h : voB V = true) : (voL V).length = 9 := by
  have h8 : V.length ≤ 8 := by
    rw [voB, Bool.and_eq_true] at h
    exact of_decide_eq_true h.1
  simp only [voL, List.length_append, numB_len, outN_len, List.length_replicate]
  omega
theorem byG_len {f : Fld} (h : IsP f) {p : Prt} {V Pl : List Int} (hk : okG f p V Pl = true) : (byG f p V Pl).length = f.b := by
  rcases h with rfl | rfl | rfl | rfl | rfl | rfl | rfl
  · exact numB_len _ _
  · exact numB_len _ _
  · exact voL_len hk
  · exact numB_len _ _
  · have h8 := (of_decide_eq_true (show decide (Pl.length = 8 ∧ ∀ k, k < Pl.length → 0 ≤ Pl.getD k 0 ∧ Pl.getD k 0 ≤ 255) = true from hk)).1
    show (outN 1 Pl).length = 8
    rw [outN_len]
    omega
  all_goals (
    have hk' := of_decide_eq_true (show decide (p.t.size = _) = true from hk)
    exact (nums_len _).trans hk')
theorem rpF_nodup (k : Int) : (rpF k).Nodup := by
  unfold rpF
  (repeat' split) <;> simp [fQuo, fCha, fVos, fNon, fPla, fWra, fDat]
/-- lists that have not been taken out yet are those of the reply -/
def KeptL (r rk : Rep) (gs : List Fld) : Prop := (fVos ∈ gs → rk.vp = r.vp ∧ rk.vm = r.vm) ∧ (fPla ∈ gs → rk.pp = r.pp ∧ rk.pm = r.pm)
theorem KeptL.step {r rk : Rep} {f : Fld} {gs : List Fld} (h : KeptL r rk (f :: gs)) (hf : IsP f) (hn : f ∉ gs) : KeptL r (exr f rk Prt.nil).1 gs := by
  refine ⟨fun hv => ?_, fun hv => ?_⟩
  · obtain ⟨h1, h2⟩ := h.1 (List.mem_cons_of_mem _ hv)
    rcases hf with rfl | rfl | rfl | rfl | rfl | rfl | rfl
    case inr.inr.inl => exact absurd hv hn
    all_goals exact ⟨h1, h2⟩
  · obtain ⟨h1, h2⟩ := h.2 (List.mem_cons_of_mem _ hv)
    rcases hf with rfl | rfl | rfl | rfl | rfl | rfl | rfl
    case inr.inr.inr.inr.inl => exact absurd hv hn
    all_goals exact ⟨h1, h2⟩
set_option maxHeartbeats 8000000 in
theorem layReplyG_any (kd : Int) (r : Rep) (V Pl : List Int) (hfull : fullP kd r.st = true) (hvm : V.length = r.vm) (hpm : Pl.length = r.pm) (hm9 : r.vm ≤ 9223372036854775807 ∧ r.pm ≤ 9223372036854775807) (B : Nat) (w : World) (hLV : Lst w B r.vp V) (hLP : Lst w B r.pp Pl) (base b : Nat) (v : Value) (l : List Int) (hW : Wtr w base b v l 0) (hb : base ≤ w.heap.size) (hB : B ≤ base) (hl : l.length ≤ 100) :
    Calls Tryz.prog 36 #[.pointer (some ⟨b, 0, none⟩), .int .i64 kd, .agg r.cs] w fun e w' => ∃ l', e = .returned (.bool (lgB kd r V Pl)) ∧ WPost base b v l' 0 w w' ∧ (lgB kd r V Pl = true → l' = l ++ lgL kd r V Pl) := by
  obtain ⟨g, hg⟩ : ∃ g, w.heap.size = g := ⟨_, rfl⟩
  obtain ⟨st, hst⟩ : ∃ q, r.st = q := ⟨_, rfl⟩
  have HFU := hide (isFull_any kd st)
  rw [← hst, hfull] at HFU
  obtain ⟨y, hy⟩ : ∃ Z, w.alloc (.cells r.cs 34) = Z := ⟨_, rfl⟩
  have BY : Blk y g r.cs 34 := by rw [← hy, ← hg]; exact Blk.new w _ _
  have hby : Below g w y := by rw [← hy, ← hg]; exact (Below.refl _ w).alloc (Nat.le_refl _) _
  have hsy : y.heap.size = g + 1 := by rw [← hy, ← hg]; simp
  have hbg : b < g := by rw [← hg]; exact hW.lt
  have c0 : y.cell? ⟨g, 0, none⟩ = some (.int .i64 st) := by rw [BY.cell, ← hst]; rfl
  have hWy : WPost base b v l 0 w y := (WPost.refl hW).below (by rw [hg]; exact hby)
  have HF := hide (rpf_any kd)
  have HA := hide (rpF_all kd)
  have HND := hide (rpF_nodup kd)
  have HLS := hide (And.intro hLV (And.intro hLP (And.intro hvm (And.intro hpm hm9))))
  have HLEN := hide (rpF_len kd)
  have HLB := hide (show lgB kd r V Pl = match layG V Pl (rpF kd) r with | none => false | some x => bareP x.1 from rfl)
  have HLL := hide (show lgL kd r V Pl = match layG V Pl (rpF kd) r with | none => [] | some x => x.2 from rfl)
  have HY := hide (And.intro BY (And.intro hWy hsy))
  have HW := hide hW
  obtain ⟨rc, hrc⟩ : ∃ Z, r.cs = Z := ⟨_, rfl⟩
  have HRC := hide hrc
  rw [hrc] at hy ⊢
  generalize lgB kd r V Pl = RB at *
  generalize lgL kd r V Pl = RL at *
  generalize rpF kd = fs at *
  clear BY hby hsy hWy hW hrc hfull hLV hLP hvm hpm hm9
  go_enter Tryz.func36, Tryz.ntmps36
  go_wp2_with fail
  clear hy
  refine (unhide HF y).mono ?_
  rintro e x ⟨fvv, rfl, hR, hx⟩
  obtain ⟨p, rfl, hp⟩ := hR.form
  obtain ⟨BY, hWy, hsy⟩ := unhide HY
  have BX := BY.below hx (by omega)
  have hWx := hWy.below hx
  have hgx : g < x.heap.size := BX.lt
  have HX := hide (And.intro BX (And.intro hWx hR))
  have HP := hide hp
  obtain ⟨n, hn⟩ : ∃ n, fs.length = n := ⟨_, rfl⟩
  have HN := hide hn
  have HPB := hide (show ∀ q, p = some q → q.block < x.heap.size by
    intro q hq
    have := hR.lt q.block (by rw [hq]; rfl)
    exact this)
  rw [hn]
  have d0 : x.cell? ⟨g, 0, none⟩ = some (.int .i64 st) := by rw [BX.cell, ← BY.cell]; exact c0
  clear hp hR BY hWy hsy BX hWx hx hn c0 HY
  rw [hst] at HFU
  go_wp2_with fail
  refine (unhide HFU _).mono ?_
  rintro e x' ⟨rfl, hx'⟩
  subst x'
  go_wp2_with fail
  clear d0
  go_loopw [27] (fun i wr => ∃ (k : Nat) (rk : Rep) (lk : List Int), k ≤ n ∧ i = .int .i64 (k : Int) ∧ layG V Pl fs r = (layG V Pl (fs.drop k) rk).map (fun z => (z.1, lk ++ z.2)) ∧ Blk wr g rk.cs 34 ∧ FR wr (.slice p n n) fs ∧ WPost base b v (l ++ lk) 0 w wr ∧ lk.length ≤ 256 * k ∧ KeptL r rk (fs.drop k)) (fun i _ => n - (intOf i).toNat)
  case atStart =>
    obtain ⟨BX, hWx, hR⟩ := unhide HX
    refine ⟨0, r, [], Nat.zero_le _, rfl, ?_, BX, by rw [← unhide HN]; rwa [unhide HN] at hR ⊢, by rw [List.append_nil]; exact hWx, by simp, ⟨fun _ => ⟨rfl, rfl⟩, fun _ => ⟨rfl, rfl⟩⟩⟩
    rw [List.drop_zero]
    cases layG V Pl fs r with
    | none => rfl
    | some z => simp
  case round =>
    obtain ⟨k, rk, lk, hk, rfl, hlq, BK, hRk, hWk, hlk, hkl⟩ := hrel
    by_cases hkn : k < n
    · have hkn' : (k : Int) < (n : Int) := by omega
      have hk0 : (0 : Int) ≤ (k : Int) := by omega
      have hlen := unhide HN
      have hn4 := unhide HLEN
      have hRk' := hRk
      obtain ⟨q, hq, hqb⟩ := FR.form (show FR wr (.slice p fs.length fs.length) fs by rw [hlen]; exact hRk)
      obtain ⟨fb, hqe, Bf⟩ := hqb (by omega)
      obtain rfl : p = q := by simpa using hq
      subst hqe
      have hf : IsP (fs[k]'(by omega)) := unhide HA _ (List.getElem_mem _)
      have hc : wr.cell? ⟨fb, k, none⟩ = some (fv (fs[k]'(by omega))) := fr_cell Bf k (by omega)
      have hdrop : fs.drop k = fs[k]'(by omega) :: fs.drop (k + 1) := (List.getElem_cons_drop (by omega)).symm
      rw [hdrop] at hlq hkl
      have hnin : fs[k]'(by omega) ∉ fs.drop (k + 1) := by
        have h9 := unhide HND
        rw [← List.take_append_drop k fs, hdrop] at h9
        have h8 := (List.nodup_append.1 h9).2.1
        exact (List.nodup_cons.1 h8).1
      have HKL := hide hkl
      have HNI := hide hnin
      clear hkl hnin
      have HLQ := hide hlq
      clear hdrop hq
      generalize fs[k]'(by omega) = f at *
      obtain ⟨h, hh⟩ : ∃ h, wr.heap.size = h := ⟨_, rfl⟩
      obtain ⟨y1, hy1⟩ : ∃ Z, wr.alloc (.cells #[.int .i64 0, .string ⟨#[]⟩, .slice none 0 0] 103) = Z := ⟨_, rfl⟩
      have hb1 : Below h wr y1 := by rw [← hy1, ← hh]; exact (Below.refl _ wr).alloc (Nat.le_refl _) _
      have BZ1 : Blk y1 h #[.int .i64 0, .string ⟨#[]⟩, .slice none 0 0] 103 := by rw [← hy1, ← hh]; exact Blk.new wr _ _
      have hgh : g < h := by rw [← hh]; exact BK.lt
      have hfh : fb < h := by rw [← hh]; exact Bf.lt
      have BK1 := BK.below hb1 hgh
      have Bf1 := Bf.below hb1 hfh
      have hW1 := hWk.below (by rw [hh]; exact hb1)
      have HRG := hide (show y1.rangeAt g 0 rk.cl from blk_range BK1)
      have HY1 := hide (And.intro BK1 (And.intro Bf1 (And.intro BZ1 hW1)))
      have HK1 := hide hlk
      have HHF := hide hf
      have hs1 : y1.heap.size = h + 1 := by rw [← hy1, ← hh]; simp
      have HS1 := hide hs1
      clear hb1 BZ1 BK1 Bf1 hW1 BK Bf hRk hRk' hWk hlq hlk hqb hs1 hf
      go_wp2_with (refine wpList_load_mid rfl 34 (.tmp 5) rfl g 0 rfl rk.cl _ (unhide HRG) Tryz.underlying34 rfl size_rep ?_)
      clear hy1
      refine (exr_any f (unhide HHF) rk Prt.nil _).mono ?_
      rintro e x2 ⟨rfl, hx2⟩
      obtain ⟨BK1, Bf1, BZ1, hW1⟩ := unhide HY1
      have hlq := unhide HLQ
      have hs1 := unhide HS1
      obtain ⟨r2, hr2⟩ : ∃ Z, (exr f rk Prt.nil).1 = Z := ⟨_, rfl⟩
      obtain ⟨p2, hp2⟩ : ∃ Z, (exr f rk Prt.nil).2 = Z := ⟨_, rfl⟩
      rw [hr2, hp2]
      have hlay : layG V Pl (f :: fs.drop (k + 1)) rk = if okG f p2 V Pl then (layG V Pl (fs.drop (k + 1)) r2).map (fun z => (z.1, byG f p2 V Pl ++ z.2)) else none := by
        rw [layG, hr2, hp2]
      rw [hlay] at hlq
      have HP2 := hide hp2
      have HKL2 := hide (show KeptL r r2 (fs.drop (k + 1)) from by rw [← hr2]; exact (unhide HKL).step (unhide HHF) (unhide HNI))
      clear hlay hr2 hp2
      have BK2 := BK1.below hx2 BK1.lt
      have Bf2 := Bf1.below hx2 Bf1.lt
      have BZ2 := BZ1.below hx2 BZ1.lt
      have hW2 := hW1.below hx2
      have hfg : fb ≠ g := by
        intro e
        subst e
        have e1 := (show x2.heap[fb]? = _ from Bf2).symm.trans (show x2.heap[fb]? = _ from BK2)
        injection e1 with e1
        injection e1 with _ e2 _
        exact absurd e2 (by decide)
      have hT1 : (34 : Nat) ≠ 5 := by decide
      have hT2 : (103 : Nat) ≠ 5 := by decide
      have hT3 : (101 : Nat) ≠ 5 := by decide
      have BK3 : Blk (x2.setRow g r2.cs) g r2.cs 34 := blk_setRow BK2
      have Bf3 : Blk (x2.setRow g r2.cs) fb _ _ := blk_setRow_other Bf2 (Ne.symm hfg)
      have BZ3 : Blk (x2.setRow g r2.cs) h _ _ := blk_setRow_other BZ2 (by omega)
      have hW3 : WPost base b v (l ++ lk) 0 w (x2.setRow g r2.cs) := hW2.turn BK2 hT1 (by omega) (by omega)
      have BK4 : Blk ((x2.setRow g r2.cs).setRow h p2.cs) g r2.cs 34 := blk_setRow_other BK3 (by omega)
      have Bf4 : Blk ((x2.setRow g r2.cs).setRow h p2.cs) fb _ _ := blk_setRow_other Bf3 (by omega)
      have BP4 : Blk ((x2.setRow g r2.cs).setRow h p2.cs) h p2.cs 103 := blk_setRow BZ3
      have hW4 : WPost base b v (l ++ lk) 0 w ((x2.setRow g r2.cs).setRow h p2.cs) := hW3.turn BZ3 hT2 (by omega) (by omega)
      obtain ⟨x3, hx3⟩ : ∃ Z, x2.setRow g r2.cs = Z := ⟨_, rfl⟩
      have HZ2 := hide BK2
      have HZ3 := hide BZ3
      rw [hx3] at BK4 Bf4 BP4 hW4
      obtain ⟨x4, hx4⟩ : ∃ Z, x3.setRow h p2.cs = Z := ⟨_, rfl⟩
      rw [hx4] at BK4 Bf4 BP4 hW4
      have HRP := hide (show x4.rangeAt h 0 p2.cl from blk_range BP4)
      obtain ⟨v1, h1, h2, h3⟩ := hW4
      have hbx : base ≤ x4.heap.size := Nat.le_trans hb h2.size
      have hlk := unhide HK1
      have hlen2 : (l ++ lk).length ≤ 1000 := by rw [List.length_append]; omega
      have hlen3 : (l ++ lk).length ≤ 900 := by rw [List.length_append]; omega
      have hwb : base ≤ b ∧ ∀ q, v1.ownBlock = some q → base ≤ q := ⟨h1.2.2, fun q hq => (h1.2.1.lt q hq).1⟩
      have hupB : Below B w x4 := WPost.up ⟨v1, h1, h2, h3⟩ (.inr ⟨(unhide HW).2.2, fun q hq => ((unhide HW).2.1.lt q hq).1⟩) hB (by omega)
      have HLV := hide (show fVos = f → Lst x4 B p2.p V ∧ V.length = p2.m ∧ p2.m ≤ 9223372036854775807 from fun e => by
        subst e
        obtain ⟨k1, k2⟩ := (unhide HKL).1 (List.mem_cons_self ..)
        rw [← unhide HP2]
        show Lst x4 B rk.vp V ∧ V.length = rk.vm ∧ rk.vm ≤ _
        rw [k1, k2]
        exact ⟨(unhide HLS).1.below hupB, (unhide HLS).2.2.1, (unhide HLS).2.2.2.2.1⟩)
      have HLP := hide (show fPla = f → Lst x4 B p2.p Pl ∧ Pl.length = p2.m ∧ p2.m ≤ 9223372036854775807 from fun e => by
        subst e
        obtain ⟨k1, k2⟩ := (unhide HKL).2 (List.mem_cons_self ..)
        rw [← unhide HP2]
        show Lst x4 B rk.pp Pl ∧ Pl.length = rk.pm ∧ rk.pm ≤ _
        rw [k1, k2]
        exact ⟨(unhide HLS).2.1.below hupB, (unhide HLS).2.2.2.1, (unhide HLS).2.2.2.2.2⟩)
      have hbx4 : b < x4.heap.size := h1.lt
      clear hupB
      have hkey : ∀ (l' : List Int) (z : World), WPost base b v1 l' 0 x4 z → Blk z g r2.cs 34 ∧ FR z (.slice (some ⟨fb, 0, none⟩) n n) fs ∧ WPost base b v l' 0 w z := by
        intro l' z hz
        refine ⟨hz.blk BK4 (fp_blk h1 BK4 hT1 (by omega)), .inr ⟨fb, by rw [hlen], hz.blk Bf4 (fp_blk h1 Bf4 hT3 ?_)⟩, WPost.trans h2 h3 hz⟩
        intro e
        have e1 := (show x4.heap[fb]? = _ from Bf4).symm.trans (show x4.heap[fb]? = _ from e ▸ h1.1)
        injection e1 with e1
        injection e1 with _ e2 _
        exact absurd e2 (by decide)
      have hwk : IntKind.i64.wrap ((k : Int) + 1) = ((k + 1 : Nat) : Int) := by rw [wrapI_eq _ (by omega) (by omega)]; omega
      have HKEY := hide hkey
      clear hkey BK1 Bf1 BZ1 hW1 BK2 Bf2 BZ2 hW2 BK3 Bf3 BZ3 hW3 BK4 Bf4 BP4 h2 h3 hx2 hfg HY1 hlk HLQ
      have HO1 := hide (Rep.one r2)
      have HO2 := hide (Prt.one p2)
      have hfv : fv f = .iface f.ty (.agg f.cs) := rfl
      rw [hfv]
      clear hfv
      go_wp2_with (first | refine wpList_store_row rfl 34 (.tmp 5) (.tmp 36) rfl g r2.cs rfl rfl 34 rk.cs (unhide HZ2) size_rep rfl (unhide HO1) ?_ | refine wpList_store_row rfl 103 (.tmp 10) (.tmp 37) rfl h p2.cs rfl rfl 103 #[.int .i64 0, .string ⟨#[]⟩, .slice none 0 0] (unhide HZ3) size_prt rfl (unhide HO2) ?_ | refine wpList_load_mid rfl 103 (.tmp 10) rfl h 0 rfl p2.cl _ (unhide HRP) Tryz.underlying103 rfl size_prt ?_)
      have hf := unhide HHF
      have HBF := hide (fun (q : okG f p2 V Pl = true) => byG_len hf q)
      have HB256 := hide (isF_b hf.isF).2
      by_cases hok : okG f p2 V Pl = true
      · have HLQ2 := hide (show layG V Pl fs r = (layG V Pl (fs.drop (k + 1)) r2).map (fun z => (z.1, (lk ++ byG f p2 V Pl) ++ z.2)) by
          rw [hlq, if_pos hok, Option.map_map]
          congr 1
          funext z
          simp)
        have HLK2 := hide (show (lk ++ byG f p2 V Pl).length ≤ 256 * (k + 1) by
          rw [List.length_append, unhide HBF hok]
          have := unhide HB256
          have := unhide HK1
          omega)
        clear hlq HHF HBF HB256
        rcases hf with rfl | rfl | rfl | rfl | rfl | rfl | rfl
        · have HC := hide (show Calls Tryz.prog 130 #[.agg #[.int .i64 2, .int .i64 0, .int .i64 65535], .pointer (some ⟨b, 0, none⟩), .agg p2.cl.toArray] x4 fun e w' => e = .returned (.bool (okG fQuo p2 V Pl)) ∧ WPost base b v1 (if okG fQuo p2 V Pl = true then l ++ lk ++ byG fQuo p2 V Pl else l ++ lk) 0 x4 w' from nlay_any (WPost.refl h1) hbx 2 0 65535 (by decide) (by decide) (by decide) p2 hlen2)
          rw [hok] at HC
          clear h1 hbx hlen2 hlen3 hwb HLV HLP hbx4
          go_wp2_with (first | (go_at_call 130; refine (unhide HC).mono ?_; rintro e z ⟨rfl, hz⟩; have HZ := hide hz; clear hz))
          obtain ⟨q1, q2, q3⟩ := unhide HKEY (l ++ lk ++ byG fQuo p2 V Pl) z (unhide HZ)
          exact ⟨⟨k + 1, r2, lk ++ byG fQuo p2 V Pl, by omega, rfl, unhide HLQ2, q1, q2, by rw [← List.append_assoc]; exact q3, unhide HLK2, unhide HKL2⟩, by simp [intOf]; omega⟩
        · have HC := hide (show Calls Tryz.prog 130 #[.agg #[.int .i64 2, .int .i64 0, .int .i64 65535], .pointer (some ⟨b, 0, none⟩), .agg p2.cl.toArray] x4 fun e w' => e = .returned (.bool (okG fCha p2 V Pl)) ∧ WPost base b v1 (if okG fCha p2 V Pl = true then l ++ lk ++ byG fCha p2 V Pl else l ++ lk) 0 x4 w' from nlay_any (WPost.refl h1) hbx 2 0 65535 (by decide) (by decide) (by decide) p2 hlen2)
          rw [hok] at HC
          clear h1 hbx hlen2 hlen3 hwb HLV HLP hbx4
          go_wp2_with (first | (go_at_call 130; refine (unhide HC).mono ?_; rintro e z ⟨rfl, hz⟩; have HZ := hide hz; clear hz))
          obtain ⟨q1, q2, q3⟩ := unhide HKEY (l ++ lk ++ byG fCha p2 V Pl) z (unhide HZ)
          exact ⟨⟨k + 1, r2, lk ++ byG fCha p2 V Pl, by omega, rfl, unhide HLQ2, q1, q2, by rw [← List.append_assoc]; exact q3, unhide HLK2, unhide HKL2⟩, by simp [intOf]; omega⟩
        · have HC := hide (show Calls Tryz.prog 141 #[.agg #[], .pointer (some ⟨b, 0, none⟩), .agg p2.cl.toArray] x4 fun e w' => e = .returned (.bool (okG fVos p2 V Pl)) ∧ WPost base b v1 (if okG fVos p2 V Pl = true then l ++ lk ++ byG fVos p2 V Pl else l ++ lk) 0 x4 w' from voLay_any (WPost.refl h1) hbx4 hwb p2 V (unhide HLV rfl).2.1 (unhide HLV rfl).1 hB hlen3 (unhide HLV rfl).2.2)
          rw [hok] at HC
          clear h1 hbx hlen2 hlen3 hwb HLV HLP hbx4
          go_wp2_with (first | (go_at_call 141; refine (unhide HC).mono ?_; rintro e z ⟨rfl, hz⟩; have HZ := hide hz; clear hz))
          obtain ⟨q1, q2, q3⟩ := unhide HKEY (l ++ lk ++ byG fVos p2 V Pl) z (unhide HZ)
          exact ⟨⟨k + 1, r2, lk ++ byG fVos p2 V Pl, by omega, rfl, unhide HLQ2, q1, q2, by rw [← List.append_assoc]; exact q3, unhide HLK2, unhide HKL2⟩, by simp [intOf]; omega⟩
        · have HC := hide (show Calls Tryz.prog 130 #[.agg #[.int .i64 4, .int .i64 0, .int .i64 4294967295], .pointer (some ⟨b, 0, none⟩), .agg p2.cl.toArray] x4 fun e w' => e = .returned (.bool (okG fNon p2 V Pl)) ∧ WPost base b v1 (if okG fNon p2 V Pl = true then l ++ lk ++ byG fNon p2 V Pl else l ++ lk) 0 x4 w' from nlay_any (WPost.refl h1) hbx 4 0 4294967295 (by decide) (by decide) (by decide) p2 hlen2)
          rw [hok] at HC
          clear h1 hbx hlen2 hlen3 hwb HLV HLP hbx4
          go_wp2_with (first | (go_at_call 130; refine (unhide HC).mono ?_; rintro e z ⟨rfl, hz⟩; have HZ := hide hz; clear hz))
          obtain ⟨q1, q2, q3⟩ := unhide HKEY (l ++ lk ++ byG fNon p2 V Pl) z (unhide HZ)
          exact ⟨⟨k + 1, r2, lk ++ byG fNon p2 V Pl, by omega, rfl, unhide HLQ2, q1, q2, by rw [← List.append_assoc]; exact q3, unhide HLK2, unhide HKL2⟩, by simp [intOf]; omega⟩
        · have HC := hide (show Calls Tryz.prog 137 #[.agg #[], .pointer (some ⟨b, 0, none⟩), .agg p2.cl.toArray] x4 fun e w' => e = .returned (.bool (okG fPla p2 V Pl)) ∧ WPost base b v1 (if okG fPla p2 V Pl = true then l ++ lk ++ byG fPla p2 V Pl else l ++ lk) 0 x4 w' from plLay_any (WPost.refl h1) hbx p2 Pl (unhide HLP rfl).2.1 (unhide HLP rfl).1 hB hlen2 (unhide HLP rfl).2.2)
          rw [hok] at HC
          clear h1 hbx hlen2 hlen3 hwb HLV HLP hbx4
          go_wp2_with (first | (go_at_call 137; refine (unhide HC).mono ?_; rintro e z ⟨rfl, hz⟩; have HZ := hide hz; clear hz))
          obtain ⟨q1, q2, q3⟩ := unhide HKEY (l ++ lk ++ byG fPla p2 V Pl) z (unhide HZ)
          exact ⟨⟨k + 1, r2, lk ++ byG fPla p2 V Pl, by omega, rfl, unhide HLQ2, q1, q2, by rw [← List.append_assoc]; exact q3, unhide HLK2, unhide HKL2⟩, by simp [intOf]; omega⟩
        · have HC := hide (show Calls Tryz.prog 134 #[.agg #[.int .i64 48], .pointer (some ⟨b, 0, none⟩), .agg p2.cl.toArray] x4 fun e w' => e = .returned (.bool (okG fWra p2 V Pl)) ∧ WPost base b v1 (if okG fWra p2 V Pl = true then l ++ lk ++ byG fWra p2 V Pl else l ++ lk) 0 x4 w' from tlay_any (WPost.refl h1) hbx 48 (by decide) p2 hlen2)
          rw [hok] at HC
          clear h1 hbx hlen2 hlen3 hwb HLV HLP hbx4
          go_wp2_with (first | (go_at_call 134; refine (unhide HC).mono ?_; rintro e z ⟨rfl, hz⟩; have HZ := hide hz; clear hz))
          obtain ⟨q1, q2, q3⟩ := unhide HKEY (l ++ lk ++ byG fWra p2 V Pl) z (unhide HZ)
          exact ⟨⟨k + 1, r2, lk ++ byG fWra p2 V Pl, by omega, rfl, unhide HLQ2, q1, q2, by rw [← List.append_assoc]; exact q3, unhide HLK2, unhide HKL2⟩, by simp [intOf]; omega⟩
        · have HC := hide (show Calls Tryz.prog 134 #[.agg #[.int .i64 256], .pointer (some ⟨b, 0, none⟩), .agg p2.cl.toArray] x4 fun e w' => e = .returned (.bool (okG fDat p2 V Pl)) ∧ WPost base b v1 (if okG fDat p2 V Pl = true then l ++ lk ++ byG fDat p2 V Pl else l ++ lk) 0 x4 w' from tlay_any (WPost.refl h1) hbx 256 (by decide) p2 hlen2)
          rw [hok] at HC
          clear h1 hbx hlen2 hlen3 hwb HLV HLP hbx4
          go_wp2_with (first | (go_at_call 134; refine (unhide HC).mono ?_; rintro e z ⟨rfl, hz⟩; have HZ := hide hz; clear hz))
          obtain ⟨q1, q2, q3⟩ := unhide HKEY (l ++ lk ++ byG fDat p2 V Pl) z (unhide HZ)
          exact ⟨⟨k + 1, r2, lk ++ byG fDat p2 V Pl, by omega, rfl, unhide HLQ2, q1, q2, by rw [← List.append_assoc]; exact q3, unhide HLK2, unhide HKL2⟩, by simp [intOf]; omega⟩
      · have hok : okG f p2 V Pl = false := by simpa using hok
        have HRB := hide (show RB = false by
          have hb := unhide HLB
          rw [hlq, if_neg (by rw [hok]; decide)] at hb
          exact hb)
        clear hlq HHF HBF HB256
        rcases hf with rfl | rfl | rfl | rfl | rfl | rfl | rfl
        · have HC := hide (show Calls Tryz.prog 130 #[.agg #[.int .i64 2, .int .i64 0, .int .i64 65535], .pointer (some ⟨b, 0, none⟩), .agg p2.cl.toArray] x4 fun e w' => e = .returned (.bool (okG fQuo p2 V Pl)) ∧ WPost base b v1 (if okG fQuo p2 V Pl = true then l ++ lk ++ byG fQuo p2 V Pl else l ++ lk) 0 x4 w' from nlay_any (WPost.refl h1) hbx 2 0 65535 (by decide) (by decide) (by decide) p2 hlen2)
          rw [hok] at HC
          clear h1 hbx hlen2 hlen3 hwb HLV HLP hbx4
          go_wp2_with (first | (go_at_call 130; refine (unhide HC).mono ?_; rintro e z ⟨rfl, hz⟩; have HZ := hide hz; clear hz))
          go_ret
          exact ⟨l ++ lk, by rw [unhide HRB]; rfl, (unhide HKEY (l ++ lk) z (unhide HZ)).2.2, fun q => absurd ((unhide HRB).symm.trans q) (by decide)⟩
        · have HC := hide (show Calls Tryz.prog 130 #[.agg #[.int .i64 2, .int .i64 0, .int .i64 65535], .pointer (some ⟨b, 0, none⟩), .agg p2.cl.toArray] x4 fun e w' => e = .returned (.bool (okG fCha p2 V Pl)) ∧ WPost base b v1 (if okG fCha p2 V Pl = true then l ++ lk ++ byG fCha p2 V Pl else l ++ lk) 0 x4 w' from nlay_any (WPost.refl h1) hbx 2 0 65535 (by decide) (by decide) (by decide) p2 hlen2)
          rw [hok] at HC
          clear h1 hbx hlen2 hlen3 hwb HLV HLP hbx4
          go_wp2_with (first | (go_at_call 130; refine (unhide HC).mono ?_; rintro e z ⟨rfl, hz⟩; have HZ := hide hz; clear hz))
          go_ret
          exact ⟨l ++ lk, by rw [unhide HRB]; rfl, (unhide HKEY (l ++ lk) z (unhide HZ)).2.2, fun q => absurd ((unhide HRB).symm.trans q) (by decide)⟩
        · have HC := hide (show Calls Tryz.prog 141 #[.agg #[], .pointer (some ⟨b, 0, none⟩), .agg p2.cl.toArray] x4 fun e w' => e = .returned (.bool (okG fVos p2 V Pl)) ∧ WPost base b v1 (if okG fVos p2 V Pl = true then l ++ lk ++ byG fVos p2 V Pl else l ++ lk) 0 x4 w' from voLay_any (WPost.refl h1) hbx4 hwb p2 V (unhide HLV rfl).2.1 (unhide HLV rfl).1 hB hlen3 (unhide HLV rfl).2.2)
          rw [hok] at HC
          clear h1 hbx hlen2 hlen3 hwb HLV HLP hbx4
          go_wp2_with (first | (go_at_call 141; refine (unhide HC).mono ?_; rintro e z ⟨rfl, hz⟩; have HZ := hide hz; clear hz))
          go_ret
          exact ⟨l ++ lk, by rw [unhide HRB]; rfl, (unhide HKEY (l ++ lk) z (unhide HZ)).2.2, fun q => absurd ((unhide HRB).symm.trans q) (by decide)⟩
        · have HC := hide (show Calls Tryz.prog 130 #[.agg #[.int .i64 4, .int .i64 0, .int .i64 4294967295], .pointer (some ⟨b, 0, none⟩), .agg p2.cl.toArray] x4 fun e w' => e = .returned (.bool (okG fNon p2 V Pl)) ∧ WPost base b v1 (if okG fNon p2 V Pl = true then l ++ lk ++ byG fNon p2 V Pl else l ++ lk) 0 x4 w' from nlay_any (WPost.refl h1) hbx 4 0 4294967295 (by decide) (by decide) (by decide) p2 hlen2)
          rw [hok] at HC
          clear h1 hbx hlen2 hlen3 hwb HLV HLP hbx4
          go_wp2_with (first | (go_at_call 130; refine (unhide HC).mono ?_; rintro e z ⟨rfl, hz⟩; have HZ := hide hz; clear hz))
          go_ret
          exact ⟨l ++ lk, by rw [unhide HRB]; rfl, (unhide HKEY (l ++ lk) z (unhide HZ)).2.2, fun q => absurd ((unhide HRB).symm.trans q) (by decide)⟩
        · have HC := hide (show Calls Tryz.prog 137 #[.agg #[], .pointer (some ⟨b, 0, none⟩), .agg p2.cl.toArray] x4 fun e w' => e = .returned (.bool (okG fPla p2 V Pl)) ∧ WPost base b v1 (if okG fPla p2 V Pl = true then l ++ lk ++ byG fPla p2 V Pl else l ++ lk) 0 x4 w' from plLay_any (WPost.refl h1) hbx p2 Pl (unhide HLP rfl).2.1 (unhide HLP rfl).1 hB hlen2 (unhide HLP rfl).2.2)
          rw [hok] at HC
          clear h1 hbx hlen2 hlen3 hwb HLV HLP hbx4
          go_wp2_with (first | (go_at_call 137; refine (unhide HC).mono ?_; rintro e z ⟨rfl, hz⟩; have HZ := hide hz; clear hz))
          go_ret
          exact ⟨l ++ lk, by rw [unhide HRB]; rfl, (unhide HKEY (l ++ lk) z (unhide HZ)).2.2, fun q => absurd ((unhide HRB).symm.trans q) (by decide)⟩
        · have HC := hide (show Calls Tryz.prog 134 #[.agg #[.int .i64 48], .pointer (some ⟨b, 0, none⟩), .agg p2.cl.toArray] x4 fun e w' => e = .returned (.bool (okG fWra p2 V Pl)) ∧ WPost base b v1 (if okG fWra p2 V Pl = true then l ++ lk ++ byG fWra p2 V Pl else l ++ lk) 0 x4 w' from tlay_any (WPost.refl h1) hbx 48 (by decide) p2 hlen2)
          rw [hok] at HC
          clear h1 hbx hlen2 hlen3 hwb HLV HLP hbx4
          go_wp2_with (first | (go_at_call 134; refine (unhide HC).mono ?_; rintro e z ⟨rfl, hz⟩; have HZ := hide hz; clear hz))
          go_ret
          exact ⟨l ++ lk, by rw [unhide HRB]; rfl, (unhide HKEY (l ++ lk) z (unhide HZ)).2.2, fun q => absurd ((unhide HRB).symm.trans q) (by decide)⟩
        · have HC := hide (show Calls Tryz.prog 134 #[.agg #[.int .i64 256], .pointer (some ⟨b, 0, none⟩), .agg p2.cl.toArray] x4 fun e w' => e = .returned (.bool (okG fDat p2 V Pl)) ∧ WPost base b v1 (if okG fDat p2 V Pl = true then l ++ lk ++ byG fDat p2 V Pl else l ++ lk) 0 x4 w' from tlay_any (WPost.refl h1) hbx 256 (by decide) p2 hlen2)
          rw [hok] at HC
          clear h1 hbx hlen2 hlen3 hwb HLV HLP hbx4
          go_wp2_with (first | (go_at_call 134; refine (unhide HC).mono ?_; rintro e z ⟨rfl, hz⟩; have HZ := hide hz; clear hz))
          go_ret
          exact ⟨l ++ lk, by rw [unhide HRB]; rfl, (unhide HKEY (l ++ lk) z (unhide HZ)).2.2, fun q => absurd ((unhide HRB).symm.trans q) (by decide)⟩
    · obtain rfl : k = n := by omega
      have hkn' : ¬ (k : Int) < (k : Int) := by omega
      have hd : fs.drop k = [] := List.drop_eq_nil_of_le (by rw [unhide HN]; omega)
      rw [hd] at hlq
      have hlq' : layG V Pl fs r = some (rk, lk) := by rw [hlq]; simp [layG]
      have HRB := hide (show RB = bareP rk by have hb := unhide HLB; rw [hlq'] at hb; exact hb)
      have HRL := hide (show RL = lk by have hb := unhide HLL; rw [hlq'] at hb; exact hb)
      have HRG := hide (show wr.rangeAt g 0 rk.cl from blk_range BK)
      have HWK := hide hWk
      have HIB := hide (fun W => isBare_any rk W)
      clear hd hlq hlq' hRk BK hWk hlk hkl
      go_wp2_with (first | refine wpList_load_mid rfl 34 (.tmp 5) rfl g 0 rfl rk.cl _ (unhide HRG) Tryz.underlying34 rfl size_rep ?_ | (go_at_call 67; refine (unhide HIB _).mono ?_; rintro e z ⟨rfl, hz⟩; have HZ := hide hz; clear hz))
      go_ret
      exact ⟨l ++ lk, by rw [unhide HRB]; rfl, (unhide HWK).below (unhide HZ), fun _ => by rw [unhide HRL]⟩
end Go.Proofs.YtclgkgaobjcifaaGreatDoor
