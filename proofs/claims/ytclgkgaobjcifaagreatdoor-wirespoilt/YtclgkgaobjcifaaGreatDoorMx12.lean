import Derived.Test.YtclgkgaobjcifaaGreatDoorMx11
namespace Go.Proofs.YtclgkgaobjcifaaGreatDoor
open Go.RowKit
set_option maxRecDepth 100000
theorem built_none : Tryz.prog.built 29 [] = some (Req.bare 0).cs := by kernel_rfl
theorem At.set {w : World} {b g : Nat} {s : ByteArray} {i : Nat} {cells : Array Value} (h : At w b s i) (hb : b ≠ g) : At (w.setRow g cells) b s i := h.only (only_setRow (P := fun j => j = g) g cells rfl) hb
theorem At.alloc {w : World} {b : Nat} {s : ByteArray} {i : Nat} (h : At w b s i) (ob : Obj) : At (w.alloc ob) b s i := Blk.alloc h ob
/-- a field taken off a frame: what it is, whether it may be, as the interface's method answers -/
theorem szF_drop (fs : List Fld) (k : Nat) (hk : k < fs.length) : szF (fs.drop k) = (fs[k]).b + szF (fs.drop (k + 1)) := by
  rw [← List.getElem_cons_drop hk]
  rfl
def tqR (kd : Int) (s : ByteArray) : Req := match takeQ (rqF kd) (Req.bare kd) s 1 with | none => Req.bare 0 | some r => r
def tqB (kd : Int) (s : ByteArray) : Bool := (takeQ (rqF kd) (Req.bare kd) s 1).isSome
set_option maxHeartbeats 8000000 in
theorem takeRequest_any (kd : Int) (s : ByteArray) (hs : s.size ≤ 150000000000000) (hsz : 1 + szF (rqF kd) ≤ s.size) (w : World) (b : Nat) (hA : At w b s 1) (hE : ETy w) :
    Calls Tryz.prog 42 #[.pointer (some ⟨b, 0, none⟩), .int .i64 kd] w fun e w' => e = .returned (.tuple #[.agg (tqR kd s).cs, .bool (tqB kd s)]) ∧ Only (fun j => j = b) w w' := by
  obtain ⟨B1, B2, hbl, hs2⟩ := two_boxes w #[.int .i64 0, .int .i64 0, .int .i64 0, .int .i64 0, .int .i64 0, .int .i64 0, .string ⟨#[]⟩, .string ⟨#[]⟩, .string ⟨#[]⟩, .string ⟨#[]⟩] #[.int .i64 0, .int .i64 0, .int .i64 0, .int .i64 0, .int .i64 0, .int .i64 0, .string ⟨#[]⟩, .string ⟨#[]⟩, .string ⟨#[]⟩, .string ⟨#[]⟩] 29 29
  obtain ⟨g, hg⟩ : ∃ g, w.heap.size = g := ⟨_, rfl⟩
  rw [hg] at B1 B2 hs2 hbl
  obtain ⟨y, hy⟩ : ∃ Z, (w.alloc (.cells #[.int .i64 0, .int .i64 0, .int .i64 0, .int .i64 0, .int .i64 0, .int .i64 0, .string ⟨#[]⟩, .string ⟨#[]⟩, .string ⟨#[]⟩, .string ⟨#[]⟩] 29)).alloc (.cells #[.int .i64 0, .int .i64 0, .int .i64 0, .int .i64 0, .int .i64 0, .int .i64 0, .string ⟨#[]⟩, .string ⟨#[]⟩, .string ⟨#[]⟩, .string ⟨#[]⟩] 29) = Z := ⟨_, rfl⟩
  rw [hy] at B1 B2 hbl hs2
  have hbg : b < g := by rw [← hg]; exact hA.lt
  have hne := Rds.ne hA hE
  have HEW := hide (fun W (h : Only (fun j => j = b) w W) => hE.only h (fun q => hne q.symm))
  have C2 := blk_setRow (cells := (Req.bare kd).cs) B2
  have C1 : Blk (y.setRow (g + 1) (Req.bare kd).cs) g _ _ := blk_setRow_other B1 (by omega)
  have hA1 : At (y.setRow (g + 1) (Req.bare kd).cs) b s 1 := (hA.below hbl hbg).set (by omega)
  have hO1 : Only (fun j => j = b) w (y.setRow (g + 1) (Req.bare kd).cs) := (Only.of_below (P := fun j => j = b) (by rw [hg]; exact hbl)).trans (only_setRow (P := fun j => j = g + 1) (g + 1) _ rfl) (fun k hk q => by omega)
  obtain ⟨y2, hy2⟩ : ∃ Z, y.setRow (g + 1) (Req.bare kd).cs = Z := ⟨_, rfl⟩
  have HZ0 := hide B2
  rw [hy2] at C1 C2 hA1 hO1
  have HY := hide (And.intro C1 (And.intro C2 (And.intro hA1 hO1)))
  have HF := hide (rqf_any kd)
  have HALL := hide (rqF_all kd)
  have HLEN := hide (rqF_len kd)
  have HB0 := hide (built_req kd)
  have HO0 := hide (Req.one (Req.bare kd))
  have HTR := hide (show tqR kd s = match takeQ (rqF kd) (Req.bare kd) s 1 with | none => Req.bare 0 | some r => r from rfl)
  have HTB := hide (show tqB kd s = (takeQ (rqF kd) (Req.bare kd) s 1).isSome from rfl)
  have HSZ := hide hsz
  generalize tqR kd s = TR at *
  generalize tqB kd s = TB at *
  generalize rqF kd = fs at *
  clear B1 B2 hbl hs2 hA hE C1 C2 hA1 hO1 hsz hne
  go_enter Tryz.func42, Tryz.ntmps42
  go_wp2_with (first | refine wpList_buildAs rfl 29 #[(0, .tmp 11)] rfl _ rfl (Req.bare kd).cs (unhide HB0) ?_ | refine wpList_store_row rfl 29 (.tmp 6) (.tmp 12) rfl (g + 1) (Req.bare kd).cs rfl rfl 29 #[.int .i64 0, .int .i64 0, .int .i64 0, .int .i64 0, .int .i64 0, .int .i64 0, .string ⟨#[]⟩, .string ⟨#[]⟩, .string ⟨#[]⟩, .string ⟨#[]⟩] (unhide HZ0) size_req rfl (unhide HO0) ?_)
  refine (unhide HF _).mono ?_
  rintro e x ⟨fvv, rfl, hR, hx⟩
  obtain ⟨p, rfl, hp⟩ := hR.form
  obtain ⟨C1, C2, hA1, hO1⟩ := unhide HY
  have HX := hide (And.intro (C1.below hx C1.lt) (And.intro (C2.below hx C2.lt) (And.intro (hA1.below hx hA1.lt) (And.intro (hO1.trans (Only.of_below (P := fun _ => False) hx) (fun _ _ q => q.elim)) hR))))
  obtain ⟨n, hn⟩ : ∃ n, fs.length = n := ⟨_, rfl⟩
  have HN := hide hn
  rw [hn]
  clear hp hR C1 C2 hA1 hO1 hx hn hy hy2 HY HZ0
  go_wp2_with fail
  go_loopw [16] (fun ix wr => ∃ (k : Nat) (rk : Req) (i : Nat), k ≤ n ∧ ix = .int .i64 (k : Int) ∧ takeQ fs (Req.bare kd) s 1 = takeQ (fs.drop k) rk s i ∧ i + szF (fs.drop k) ≤ s.size ∧ Blk wr g #[.int .i64 0, .int .i64 0, .int .i64 0, .int .i64 0, .int .i64 0, .int .i64 0, .string ⟨#[]⟩, .string ⟨#[]⟩, .string ⟨#[]⟩, .string ⟨#[]⟩] 29 ∧ Blk wr (g + 1) rk.cs 29 ∧ FR wr (.slice p n n) fs ∧ At wr b s i ∧ Only (fun j => j = b) w wr) (fun ix _ => n - (intOf ix).toNat)
  case atStart =>
    obtain ⟨C1, C2, hA1, hO1, hR⟩ := unhide HX
    refine ⟨0, Req.bare kd, 1, Nat.zero_le _, rfl, by rw [List.drop_zero], by rw [List.drop_zero]; exact unhide HSZ, C1, C2, ?_, hA1, hO1⟩
    rw [unhide HN] at hR
    exact hR
  case round =>
    obtain ⟨k, rk, i, hk, rfl, htq, hisz, BR, BK, hRk, hAk, hOk⟩ := hrel
    by_cases hkn : k < n
    · have hkn' : (k : Int) < (n : Int) := by omega
      have hk0 : (0 : Int) ≤ (k : Int) := by omega
      have hlen := unhide HN
      have hn4 := unhide HLEN
      obtain ⟨q, hq, hqb⟩ := FR.form (show FR wr (.slice p fs.length fs.length) fs by rw [hlen]; exact hRk)
      obtain ⟨fb, hqe, Bf⟩ := hqb (by omega)
      obtain rfl : p = q := by simpa using hq
      subst hqe
      have hf : IsQ (fs[k]'(by omega)) := unhide HALL _ (List.getElem_mem _)
      have hc : wr.cell? ⟨fb, k, none⟩ = some (fv (fs[k]'(by omega))) := fr_cell Bf k (by omega)
      have hdrop : fs.drop k = fs[k]'(by omega) :: fs.drop (k + 1) := (List.getElem_cons_drop (by omega)).symm
      rw [szF_drop fs k (by omega)] at hisz
      rw [hdrop] at htq
      have hEr := unhide HEW wr hOk
      clear hdrop hq hqb hRk
      generalize fs[k]'(by omega) = f at *
      have htk : takeQ (f :: fs.drop (k + 1)) rk s i = if okT f (prF f s i) then takeQ (fs.drop (k + 1)) (exq f rk (prF f s i)).1 s (i + f.b) else none := rfl
      rw [htk] at htq
      clear htk
      have hfv : fv f = .iface f.ty (.agg f.cs) := rfl
      rw [hfv] at hc
      clear hfv
      obtain ⟨p2, hp2⟩ : ∃ Z, prF f s i = Z := ⟨_, rfl⟩
      have HP2 := hide hp2
      rw [hp2] at htq
      clear hp2
      have hT1 : ((29 : Nat)) ≠ 5 := by decide
      have hbr := hAk.lt
      have HK := hide (And.intro BR (And.intro BK (And.intro Bf (And.intro hAk (And.intro hOk hEr)))))
      have hwk : IntKind.i64.wrap ((k : Int) + 1) = ((k + 1 : Nat) : Int) := by rw [wrapI_eq _ (by omega) (by omega)]; omega
      have HTQ := hide htq
      have HISZ := hide hisz
      clear BR BK Bf hAk hOk hEr htq hisz
      rcases hf with rfl | rfl | rfl | rfl | rfl | rfl | rfl | rfl | rfl
      · obtain ⟨BR, BK, Bf, hAk, hOk, hEr⟩ := unhide HK
        have hib : i + 1 ≤ s.size := by have h := unhide HISZ; have e : (fTen).b = 1 := rfl; rw [e] at h; omega
        have hC : Calls Tryz.prog 132 #[.agg #[.int .i64 1, .int .i64 1, .int .i64 8], .pointer (some ⟨b, 0, none⟩)] wr fun e w' => e = .returned (.tuple #[.agg (prF fTen s i).cs, .bool (okT fTen (prF fTen s i))]) ∧ At w' b s (i + 1) ∧ Only (fun j => j = b) wr w' := ntake_any 1 1 8 (by decide) (by decide) wr b s i hAk hEr hs hib _ rfl
        rw [unhide HP2] at hC
        have HC := hide hC
        have hc' : wr.cell? ⟨fb, k, none⟩ = some (.iface 121 (.agg #[.int .i64 1, .int .i64 1, .int .i64 8])) := hc
        have HBF0 := hide (And.intro BR (And.intro BK (And.intro Bf hOk)))
        clear hC hib BR BK Bf hAk hOk hEr hc
        cases hok : okT fTen p2 with
        | true =>
          rw [hok] at HC
          go_wp2_with fail
          refine (unhide HC).mono ?_
          rintro e z ⟨rfl, hAz, hOz⟩
          obtain ⟨BR, BK, Bf, hOk⟩ := unhide HBF0
          obtain ⟨h, hh⟩ : ∃ h, z.heap.size = h := ⟨_, rfl⟩
          obtain ⟨y1, hy1⟩ : ∃ Z, z.alloc (.cells #[.int .i64 0, .string ⟨#[]⟩, .slice none 0 0] 103) = Z := ⟨_, rfl⟩
          have hzk := hOz.size
          have hgk : g + 1 < wr.heap.size := BK.lt
          have hfk : fb < wr.heap.size := Bf.lt
          have hfb : fb ≠ b := by
            intro e
            subst e
            obtain ⟨_, _, _, hAk, _, _⟩ := unhide HK
            have e1 := (show wr.heap[fb]? = _ from Bf).symm.trans (show wr.heap[fb]? = _ from hAk)
            injection e1 with e1
            injection e1 with _ e2 _
            exact absurd e2 (by decide)
          have hfg : fb ≠ g ∧ fb ≠ g + 1 := by
            constructor
            · intro e
              subst e
              have e1 := (show wr.heap[fb]? = _ from Bf).symm.trans (show wr.heap[fb]? = _ from BR)
              injection e1 with e1
              injection e1 with _ e2 _
              exact absurd e2 (by decide)
            · intro e
              subst e
              have e1 := (show wr.heap[g + 1]? = _ from Bf).symm.trans (show wr.heap[g + 1]? = _ from BK)
              injection e1 with e1
              injection e1 with _ e2 _
              exact absurd e2 (by decide)
          have HFG := hide hfg
          have hb1 : Below h z y1 := by rw [← hy1, ← hh]; exact (Below.refl _ z).alloc (Nat.le_refl _) _
          have BZ1 : Blk y1 h #[.int .i64 0, .string ⟨#[]⟩, .slice none 0 0] 103 := by rw [← hy1, ← hh]; exact Blk.new z _ _
          have HZ3 := hide BZ1
          have HO3 := hide (Prt.one p2)
          obtain ⟨y2, hy2⟩ : ∃ Z, y1.setRow h p2.cs = Z := ⟨_, rfl⟩
          have hd : Blk y2 g #[.int .i64 0, .int .i64 0, .int .i64 0, .int .i64 0, .int .i64 0, .int .i64 0, .string ⟨#[]⟩, .string ⟨#[]⟩, .string ⟨#[]⟩, .string ⟨#[]⟩] 29 ∧ Blk y2 (g + 1) rk.cs 29 ∧ Blk y2 fb (fs.map fv).toArray 101 ∧ At y2 b s (i + 1) ∧ Only (fun j => j = b) w y2 := by
            rw [← hy2]
            refine ⟨blk_setRow_other ((BR.only hOz (by omega)).below hb1 (by omega)) (by omega), blk_setRow_other ((BK.only hOz (by omega)).below hb1 (by omega)) (by omega), blk_setRow_other ((Bf.only hOz hfb).below hb1 (by omega)) (by omega), (hAz.below hb1 (by omega)).set (by omega), ?_⟩
            exact ((hOk.trans hOz (fun _ _ q => q)).trans (Only.of_below (P := fun _ => False) (by rw [hh]; exact hb1)) (fun _ _ q => q.elim)).trans (only_setRow (P := fun j => j = h) h _ rfl) (fun j hj q => by have := hOk.size; omega)
          have BP2 : Blk y2 h p2.cs 103 := by rw [← hy2]; exact blk_setRow BZ1
          have HRP := hide (show y2.rangeAt h 0 p2.cl from blk_range BP2)
          have HRG := hide (show y2.rangeAt (g + 1) 0 rk.cl from blk_range hd.2.1)
          have HD := hide hd
          clear BR BK Bf hOk hb1 BZ1 BP2 hd hAz hOz hfg hfb hzk
          obtain ⟨r2, hr2⟩ : ∃ Z, (exq fTen rk p2).1 = Z := ⟨_, rfl⟩
          obtain ⟨q2, hq2⟩ : ∃ Z, (exq fTen rk p2).2 = Z := ⟨_, rfl⟩
          have hEX := exq_any fTen (by simp [IsQ]) rk p2
          rw [hr2, hq2] at hEX
          have HEX := hide hEX
          have HT2 := hide (show takeQ fs (Req.bare kd) s 1 = takeQ (fs.drop (k + 1)) r2 s (i + 1) by
            have h := unhide HTQ
            rw [hok, if_pos rfl, hr2] at h
            exact h)
          have HI2 := hide (show i + 1 + szF (fs.drop (k + 1)) ≤ s.size by
            have h := unhide HISZ
            have e : (fTen).b = 1 := rfl
            rw [e] at h
            omega)
          have HO2 := hide (Req.one r2)
          clear hEX hr2 hq2 HISZ HTQ HC HK
          go_wp2_with (first | refine wpList_store_row rfl 103 (.tmp 9) (.tmp 24) rfl h p2.cs rfl rfl 103 #[.int .i64 0, .string ⟨#[]⟩, .slice none 0 0] (unhide HZ3) size_prt rfl (unhide HO3) ?_ | refine wpList_load_mid rfl 29 (.tmp 6) rfl (g + 1) 0 rfl rk.cl _ (unhide HRG) Tryz.underlying29 rfl size_req ?_ | refine wpList_load_mid rfl 103 (.tmp 9) rfl h 0 rfl p2.cl _ (unhide HRP) Tryz.underlying103 rfl size_prt ?_)
          refine (unhide HEX _).mono ?_
          rintro e x3 ⟨rfl, hx3⟩
          obtain ⟨D1, D2, D3, D4, D5⟩ := unhide HD
          have E2 := D2.below hx3 D2.lt
          have HZ4 := hide E2
          have HFIN := hide (show Blk (x3.setRow (g + 1) r2.cs) g #[.int .i64 0, .int .i64 0, .int .i64 0, .int .i64 0, .int .i64 0, .int .i64 0, .string ⟨#[]⟩, .string ⟨#[]⟩, .string ⟨#[]⟩, .string ⟨#[]⟩] 29 ∧ Blk (x3.setRow (g + 1) r2.cs) (g + 1) r2.cs 29 ∧ FR (x3.setRow (g + 1) r2.cs) (.slice (some ⟨fb, 0, none⟩) n n) fs ∧ At (x3.setRow (g + 1) r2.cs) b s (i + 1) ∧ Only (fun j => j = b) w (x3.setRow (g + 1) r2.cs) from
            ⟨blk_setRow_other (D1.below hx3 D1.lt) (by omega), blk_setRow E2, .inr ⟨fb, by rw [hlen], blk_setRow_other (D3.below hx3 D3.lt) (by have := unhide HFG; omega)⟩, (D4.below hx3 D4.lt).set (by omega), (D5.trans (Only.of_below (P := fun _ => False) hx3) (fun _ _ q => q.elim)).trans (only_setRow (P := fun j => j = g + 1) (g + 1) _ rfl) (fun j hj q => by omega)⟩)
          clear D1 D2 D3 D4 D5 E2 hx3 HD
          go_wp2_with (refine wpList_store_row rfl 29 (.tmp 6) (.tmp 34) rfl (g + 1) r2.cs rfl rfl 29 rk.cs (unhide HZ4) size_req rfl (unhide HO2) ?_)
          obtain ⟨F1, F2, F3, F4, F5⟩ := unhide HFIN
          exact ⟨⟨k + 1, r2, i + 1, by omega, rfl, unhide HT2, unhide HI2, F1, F2, F3, F4, F5⟩, by simp [intOf]; omega⟩
        | false =>
          rw [hok] at HC
          go_wp2_with fail
          refine (unhide HC).mono ?_
          rintro e z ⟨rfl, hAz, hOz⟩
          obtain ⟨BR, BK, Bf, hOk⟩ := unhide HBF0
          obtain ⟨h, hh⟩ : ∃ h, z.heap.size = h := ⟨_, rfl⟩
          obtain ⟨y1, hy1⟩ : ∃ Z, z.alloc (.cells #[.int .i64 0, .string ⟨#[]⟩, .slice none 0 0] 103) = Z := ⟨_, rfl⟩
          have hzk := hOz.size
          have hgk : g + 1 < wr.heap.size := BK.lt
          have hfk : fb < wr.heap.size := Bf.lt
          have hfb : fb ≠ b := by
            intro e
            subst e
            obtain ⟨_, _, _, hAk, _, _⟩ := unhide HK
            have e1 := (show wr.heap[fb]? = _ from Bf).symm.trans (show wr.heap[fb]? = _ from hAk)
            injection e1 with e1
            injection e1 with _ e2 _
            exact absurd e2 (by decide)
          have hfg : fb ≠ g ∧ fb ≠ g + 1 := by
            constructor
            · intro e
              subst e
              have e1 := (show wr.heap[fb]? = _ from Bf).symm.trans (show wr.heap[fb]? = _ from BR)
              injection e1 with e1
              injection e1 with _ e2 _
              exact absurd e2 (by decide)
            · intro e
              subst e
              have e1 := (show wr.heap[g + 1]? = _ from Bf).symm.trans (show wr.heap[g + 1]? = _ from BK)
              injection e1 with e1
              injection e1 with _ e2 _
              exact absurd e2 (by decide)
          have HFG := hide hfg
          have hb1 : Below h z y1 := by rw [← hy1, ← hh]; exact (Below.refl _ z).alloc (Nat.le_refl _) _
          have BZ1 : Blk y1 h #[.int .i64 0, .string ⟨#[]⟩, .slice none 0 0] 103 := by rw [← hy1, ← hh]; exact Blk.new z _ _
          have HZ3 := hide BZ1
          have HO3 := hide (Prt.one p2)
          obtain ⟨y2, hy2⟩ : ∃ Z, y1.setRow h p2.cs = Z := ⟨_, rfl⟩
          have hd : Blk y2 g #[.int .i64 0, .int .i64 0, .int .i64 0, .int .i64 0, .int .i64 0, .int .i64 0, .string ⟨#[]⟩, .string ⟨#[]⟩, .string ⟨#[]⟩, .string ⟨#[]⟩] 29 ∧ Blk y2 (g + 1) rk.cs 29 ∧ Blk y2 fb (fs.map fv).toArray 101 ∧ At y2 b s (i + 1) ∧ Only (fun j => j = b) w y2 := by
            rw [← hy2]
            refine ⟨blk_setRow_other ((BR.only hOz (by omega)).below hb1 (by omega)) (by omega), blk_setRow_other ((BK.only hOz (by omega)).below hb1 (by omega)) (by omega), blk_setRow_other ((Bf.only hOz hfb).below hb1 (by omega)) (by omega), (hAz.below hb1 (by omega)).set (by omega), ?_⟩
            exact ((hOk.trans hOz (fun _ _ q => q)).trans (Only.of_below (P := fun _ => False) (by rw [hh]; exact hb1)) (fun _ _ q => q.elim)).trans (only_setRow (P := fun j => j = h) h _ rfl) (fun j hj q => by have := hOk.size; omega)
          have BP2 : Blk y2 h p2.cs 103 := by rw [← hy2]; exact blk_setRow BZ1
          have HRP := hide (show y2.rangeAt h 0 p2.cl from blk_range BP2)
          have HRG := hide (show y2.rangeAt (g + 1) 0 rk.cl from blk_range hd.2.1)
          have HD := hide hd
          clear BR BK Bf hOk hb1 BZ1 BP2 hd hAz hOz hfg hfb hzk
          have HR1 := hide (show TR = Req.bare 0 ∧ TB = false by
            have h := unhide HTQ
            rw [hok, if_neg (by decide)] at h
            have h1 := unhide HTR
            have h2 := unhide HTB
            rw [h] at h1 h2
            exact ⟨h1, h2⟩)
          obtain ⟨D1, D2, D3, D4, D5⟩ := unhide HD
          have BT := blk_setRow (cells := (Req.bare 0).cs) D1
          have HL := hide (iload_blk 29 _ BT Tryz.underlying29 rfl size_req)
          have HZ5 := hide D1
          have HO5 := hide (Req.one (Req.bare 0))
          have HBN := hide built_none
          have HF2 := hide (show Only (fun j => j = b) w (y2.setRow g (Req.bare 0).cs) from D5.trans (only_setRow (P := fun j => j = g) g _ rfl) (fun j hj q => by omega))
          clear D1 D2 D3 D4 D5 BT HD HISZ HTQ HC HK
          go_wp2_with (first | refine wpList_store_row rfl 103 (.tmp 9) (.tmp 24) rfl h p2.cs rfl rfl 103 #[.int .i64 0, .string ⟨#[]⟩, .slice none 0 0] (unhide HZ3) size_prt rfl (unhide HO3) ?_ | refine wpList_buildAs rfl 29 #[] rfl _ rfl (Req.bare 0).cs (unhide HBN) ?_ | refine wpList_store_row rfl 29 (.tmp 4) (.tmp 28) rfl g (Req.bare 0).cs rfl rfl 29 #[.int .i64 0, .int .i64 0, .int .i64 0, .int .i64 0, .int .i64 0, .int .i64 0, .string ⟨#[]⟩, .string ⟨#[]⟩, .string ⟨#[]⟩, .string ⟨#[]⟩] (unhide HZ5) size_req rfl (unhide HO5) ?_)
          (try simp only [Exit.inBlock, Exit.then])
          refine bodyPost_ret (v := .tuple #[.agg (Req.bare 0).cs, .bool false]) (results_cell2 (p := 4) (q := 5) (ty := 29) rfl _ _ _ ⟨g, 0, none⟩ rfl _ (unhide HL)) rfl ?_
          exact ⟨by rw [(unhide HR1).1, (unhide HR1).2], unhide HF2⟩
      · obtain ⟨BR, BK, Bf, hAk, hOk, hEr⟩ := unhide HK
        have hib : i + 2 ≤ s.size := by have h := unhide HISZ; have e : (fQuo).b = 2 := rfl; rw [e] at h; omega
        have hC : Calls Tryz.prog 132 #[.agg #[.int .i64 2, .int .i64 0, .int .i64 65535], .pointer (some ⟨b, 0, none⟩)] wr fun e w' => e = .returned (.tuple #[.agg (prF fQuo s i).cs, .bool (okT fQuo (prF fQuo s i))]) ∧ At w' b s (i + 2) ∧ Only (fun j => j = b) wr w' := ntake_any 2 0 65535 (by decide) (by decide) wr b s i hAk hEr hs hib _ rfl
        rw [unhide HP2] at hC
        have HC := hide hC
        have hc' : wr.cell? ⟨fb, k, none⟩ = some (.iface 122 (.agg #[.int .i64 2, .int .i64 0, .int .i64 65535])) := hc
        have HBF0 := hide (And.intro BR (And.intro BK (And.intro Bf hOk)))
        clear hC hib BR BK Bf hAk hOk hEr hc
        cases hok : okT fQuo p2 with
        | true =>
          rw [hok] at HC
          go_wp2_with fail
          refine (unhide HC).mono ?_
          rintro e z ⟨rfl, hAz, hOz⟩
          obtain ⟨BR, BK, Bf, hOk⟩ := unhide HBF0
          obtain ⟨h, hh⟩ : ∃ h, z.heap.size = h := ⟨_, rfl⟩
          obtain ⟨y1, hy1⟩ : ∃ Z, z.alloc (.cells #[.int .i64 0, .string ⟨#[]⟩, .slice none 0 0] 103) = Z := ⟨_, rfl⟩
          have hzk := hOz.size
          have hgk : g + 1 < wr.heap.size := BK.lt
          have hfk : fb < wr.heap.size := Bf.lt
          have hfb : fb ≠ b := by
            intro e
            subst e
            obtain ⟨_, _, _, hAk, _, _⟩ := unhide HK
            have e1 := (show wr.heap[fb]? = _ from Bf).symm.trans (show wr.heap[fb]? = _ from hAk)
            injection e1 with e1
            injection e1 with _ e2 _
            exact absurd e2 (by decide)
          have hfg : fb ≠ g ∧ fb ≠ g + 1 := by
            constructor
            · intro e
              subst e
              have e1 := (show wr.heap[fb]? = _ from Bf).symm.trans (show wr.heap[fb]? = _ from BR)
              injection e1 with e1
              injection e1 with _ e2 _
              exact absurd e2 (by decide)
            · intro e
              subst e
              have e1 := (show wr.heap[g + 1]? = _ from Bf).symm.trans (show wr.heap[g + 1]? = _ from BK)
              injection e1 with e1
              injection e1 with _ e2 _
              exact absurd e2 (by decide)
          have HFG := hide hfg
          have hb1 : Below h z y1 := by rw [← hy1, ← hh]; exact (Below.refl _ z).alloc (Nat.le_refl _) _
          have BZ1 : Blk y1 h #[.int .i64 0, .string ⟨#[]⟩, .slice none 0 0] 103 := by rw [← hy1, ← hh]; exact Blk.new z _ _
          have HZ3 := hide BZ1
          have HO3 := hide (Prt.one p2)
          obtain ⟨y2, hy2⟩ : ∃ Z, y1.setRow h p2.cs = Z := ⟨_, rfl⟩
          have hd : Blk y2 g #[.int .i64 0, .int .i64 0, .int .i64 0, .int .i64 0, .int .i64 0, .int .i64 0, .string ⟨#[]⟩, .string ⟨#[]⟩, .string ⟨#[]⟩, .string ⟨#[]⟩] 29 ∧ Blk y2 (g + 1) rk.cs 29 ∧ Blk y2 fb (fs.map fv).toArray 101 ∧ At y2 b s (i + 2) ∧ Only (fun j => j = b) w y2 := by
            rw [← hy2]
            refine ⟨blk_setRow_other ((BR.only hOz (by omega)).below hb1 (by omega)) (by omega), blk_setRow_other ((BK.only hOz (by omega)).below hb1 (by omega)) (by omega), blk_setRow_other ((Bf.only hOz hfb).below hb1 (by omega)) (by omega), (hAz.below hb1 (by omega)).set (by omega), ?_⟩
            exact ((hOk.trans hOz (fun _ _ q => q)).trans (Only.of_below (P := fun _ => False) (by rw [hh]; exact hb1)) (fun _ _ q => q.elim)).trans (only_setRow (P := fun j => j = h) h _ rfl) (fun j hj q => by have := hOk.size; omega)
          have BP2 : Blk y2 h p2.cs 103 := by rw [← hy2]; exact blk_setRow BZ1
          have HRP := hide (show y2.rangeAt h 0 p2.cl from blk_range BP2)
          have HRG := hide (show y2.rangeAt (g + 1) 0 rk.cl from blk_range hd.2.1)
          have HD := hide hd
          clear BR BK Bf hOk hb1 BZ1 BP2 hd hAz hOz hfg hfb hzk
          obtain ⟨r2, hr2⟩ : ∃ Z, (exq fQuo rk p2).1 = Z := ⟨_, rfl⟩
          obtain ⟨q2, hq2⟩ : ∃ Z, (exq fQuo rk p2).2 = Z := ⟨_, rfl⟩
          have hEX := exq_any fQuo (by simp [IsQ]) rk p2
          rw [hr2, hq2] at hEX
          have HEX := hide hEX
          have HT2 := hide (show takeQ fs (Req.bare kd) s 1 = takeQ (fs.drop (k + 1)) r2 s (i + 2) by
            have h := unhide HTQ
            rw [hok, if_pos rfl, hr2] at h
            exact h)
          have HI2 := hide (show i + 2 + szF (fs.drop (k + 1)) ≤ s.size by
            have h := unhide HISZ
            have e : (fQuo).b = 2 := rfl
            rw [e] at h
            omega)
          have HO2 := hide (Req.one r2)
          clear hEX hr2 hq2 HISZ HTQ HC HK
          go_wp2_with (first | refine wpList_store_row rfl 103 (.tmp 9) (.tmp 24) rfl h p2.cs rfl rfl 103 #[.int .i64 0, .string ⟨#[]⟩, .slice none 0 0] (unhide HZ3) size_prt rfl (unhide HO3) ?_ | refine wpList_load_mid rfl 29 (.tmp 6) rfl (g + 1) 0 rfl rk.cl _ (unhide HRG) Tryz.underlying29 rfl size_req ?_ | refine wpList_load_mid rfl 103 (.tmp 9) rfl h 0 rfl p2.cl _ (unhide HRP) Tryz.underlying103 rfl size_prt ?_)
          refine (unhide HEX _).mono ?_
          rintro e x3 ⟨rfl, hx3⟩
          obtain ⟨D1, D2, D3, D4, D5⟩ := unhide HD
          have E2 := D2.below hx3 D2.lt
          have HZ4 := hide E2
          have HFIN := hide (show Blk (x3.setRow (g + 1) r2.cs) g #[.int .i64 0, .int .i64 0, .int .i64 0, .int .i64 0, .int .i64 0, .int .i64 0, .string ⟨#[]⟩, .string ⟨#[]⟩, .string ⟨#[]⟩, .string ⟨#[]⟩] 29 ∧ Blk (x3.setRow (g + 1) r2.cs) (g + 1) r2.cs 29 ∧ FR (x3.setRow (g + 1) r2.cs) (.slice (some ⟨fb, 0, none⟩) n n) fs ∧ At (x3.setRow (g + 1) r2.cs) b s (i + 2) ∧ Only (fun j => j = b) w (x3.setRow (g + 1) r2.cs) from
            ⟨blk_setRow_other (D1.below hx3 D1.lt) (by omega), blk_setRow E2, .inr ⟨fb, by rw [hlen], blk_setRow_other (D3.below hx3 D3.lt) (by have := unhide HFG; omega)⟩, (D4.below hx3 D4.lt).set (by omega), (D5.trans (Only.of_below (P := fun _ => False) hx3) (fun _ _ q => q.elim)).trans (only_setRow (P := fun j => j = g + 1) (g + 1) _ rfl) (fun j hj q => by omega)⟩)
          clear D1 D2 D3 D4 D5 E2 hx3 HD
          go_wp2_with (refine wpList_store_row rfl 29 (.tmp 6) (.tmp 34) rfl (g + 1) r2.cs rfl rfl 29 rk.cs (unhide HZ4) size_req rfl (unhide HO2) ?_)
          obtain ⟨F1, F2, F3, F4, F5⟩ := unhide HFIN
          exact ⟨⟨k + 1, r2, i + 2, by omega, rfl, unhide HT2, unhide HI2, F1, F2, F3, F4, F5⟩, by simp [intOf]; omega⟩
        | false =>
          rw [hok] at HC
          go_wp2_with fail
          refine (unhide HC).mono ?_
          rintro e z ⟨rfl, hAz, hOz⟩
          obtain ⟨BR, BK, Bf, hOk⟩ := unhide HBF0
          obtain ⟨h, hh⟩ : ∃ h, z.heap.size = h := ⟨_, rfl⟩
          obtain ⟨y1, hy1⟩ : ∃ Z, z.alloc (.cells #[.int .i64 0, .string ⟨#[]⟩, .slice none 0 0] 103) = Z := ⟨_, rfl⟩
          have hzk := hOz.size
          have hgk : g + 1 < wr.heap.size := BK.lt
          have hfk : fb < wr.heap.size := Bf.lt
          have hfb : fb ≠ b := by
            intro e
            subst e
            obtain ⟨_, _, _, hAk, _, _⟩ := unhide HK
            have e1 := (show wr.heap[fb]? = _ from Bf).symm.trans (show wr.heap[fb]? = _ from hAk)
            injection e1 with e1
            injection e1 with _ e2 _
            exact absurd e2 (by decide)
          have hfg : fb ≠ g ∧ fb ≠ g + 1 := by
            constructor
            · intro e
              subst e
              have e1 := (show wr.heap[fb]? = _ from Bf).symm.trans (show wr.heap[fb]? = _ from BR)
              injection e1 with e1
              injection e1 with _ e2 _
              exact absurd e2 (by decide)
            · intro e
              subst e
              have e1 := (show wr.heap[g + 1]? = _ from Bf).symm.trans (show wr.heap[g + 1]? = _ from BK)
              injection e1 with e1
              injection e1 with _ e2 _
              exact absurd e2 (by decide)
          have HFG := hide hfg
          have hb1 : Below h z y1 := by rw [← hy1, ← hh]; exact (Below.refl _ z).alloc (Nat.le_refl _) _
          have BZ1 : Blk y1 h #[.int .i64 0, .string ⟨#[]⟩, .slice none 0 0] 103 := by rw [← hy1, ← hh]; exact Blk.new z _ _
          have HZ3 := hide BZ1
          have HO3 := hide (Prt.one p2)
          obtain ⟨y2, hy2⟩ : ∃ Z, y1.setRow h p2.cs = Z := ⟨_, rfl⟩
          have hd : Blk y2 g #[.int .i64 0, .int .i64 0, .int .i64 0, .int .i64 0, .int .i64 0, .int .i64 0, .string ⟨#[]⟩, .string ⟨#[]⟩, .string ⟨#[]⟩, .string ⟨#[]⟩] 29 ∧ Blk y2 (g + 1) rk.cs 29 ∧ Blk y2 fb (fs.map fv).toArray 101 ∧ At y2 b s (i + 2) ∧ Only (fun j => j = b) w y2 := by
            rw [← hy2]
            refine ⟨blk_setRow_other ((BR.only hOz (by omega)).below hb1 (by omega)) (by omega), blk_setRow_other ((BK.only hOz (by omega)).below hb1 (by omega)) (by omega), blk_setRow_other ((Bf.only hOz hfb).below hb1 (by omega)) (by omega), (hAz.below hb1 (by omega)).set (by omega), ?_⟩
            exact ((hOk.trans hOz (fun _ _ q => q)).trans (Only.of_below (P := fun _ => False) (by rw [hh]; exact hb1)) (fun _ _ q => q.elim)).trans (only_setRow (P := fun j => j = h) h _ rfl) (fun j hj q => by have := hOk.size; omega)
          have BP2 : Blk y2 h p2.cs 103 := by rw [← hy2]; exact blk_setRow BZ1
          have HRP := hide (show y2.rangeAt h 0 p2.cl from blk_range BP2)
          have HRG := hide (show y2.rangeAt (g + 1) 0 rk.cl from blk_range hd.2.1)
          have HD := hide hd
          clear BR BK Bf hOk hb1 BZ1 BP2 hd hAz hOz hfg hfb hzk
          have HR1 := hide (show TR = Req.bare 0 ∧ TB = false by
            have h := unhide HTQ
            rw [hok, if_neg (by decide)] at h
            have h1 := unhide HTR
            have h2 := unhide HTB
            rw [h] at h1 h2
            exact ⟨h1, h2⟩)
          obtain ⟨D1, D2, D3, D4, D5⟩ := unhide HD
          have BT := blk_setRow (cells := (Req.bare 0).cs) D1
          have HL := hide (iload_blk 29 _ BT Tryz.underlying29 rfl size_req)
          have HZ5 := hide D1
          have HO5 := hide (Req.one (Req.bare 0))
          have HBN := hide built_none
          have HF2 := hide (show Only (fun j => j = b) w (y2.setRow g (Req.bare 0).cs) from D5.trans (only_setRow (P := fun j => j = g) g _ rfl) (fun j hj q => by omega))
          clear D1 D2 D3 D4 D5 BT HD HISZ HTQ HC HK
          go_wp2_with (first | refine wpList_store_row rfl 103 (.tmp 9) (.tmp 24) rfl h p2.cs rfl rfl 103 #[.int .i64 0, .string ⟨#[]⟩, .slice none 0 0] (unhide HZ3) size_prt rfl (unhide HO3) ?_ | refine wpList_buildAs rfl 29 #[] rfl _ rfl (Req.bare 0).cs (unhide HBN) ?_ | refine wpList_store_row rfl 29 (.tmp 4) (.tmp 28) rfl g (Req.bare 0).cs rfl rfl 29 #[.int .i64 0, .int .i64 0, .int .i64 0, .int .i64 0, .int .i64 0, .int .i64 0, .string ⟨#[]⟩, .string ⟨#[]⟩, .string ⟨#[]⟩, .string ⟨#[]⟩] (unhide HZ5) size_req rfl (unhide HO5) ?_)
          (try simp only [Exit.inBlock, Exit.then])
          refine bodyPost_ret (v := .tuple #[.agg (Req.bare 0).cs, .bool false]) (results_cell2 (p := 4) (q := 5) (ty := 29) rfl _ _ _ ⟨g, 0, none⟩ rfl _ (unhide HL)) rfl ?_
          exact ⟨by rw [(unhide HR1).1, (unhide HR1).2], unhide HF2⟩
      · obtain ⟨BR, BK, Bf, hAk, hOk, hEr⟩ := unhide HK
        have hib : i + 1 ≤ s.size := by have h := unhide HISZ; have e : (fVol).b = 1 := rfl; rw [e] at h; omega
        have hC : Calls Tryz.prog 132 #[.agg #[.int .i64 1, .int .i64 1, .int .i64 99], .pointer (some ⟨b, 0, none⟩)] wr fun e w' => e = .returned (.tuple #[.agg (prF fVol s i).cs, .bool (okT fVol (prF fVol s i))]) ∧ At w' b s (i + 1) ∧ Only (fun j => j = b) wr w' := ntake_any 1 1 99 (by decide) (by decide) wr b s i hAk hEr hs hib _ rfl
        rw [unhide HP2] at hC
        have HC := hide hC
        have hc' : wr.cell? ⟨fb, k, none⟩ = some (.iface 124 (.agg #[.int .i64 1, .int .i64 1, .int .i64 99])) := hc
        have HBF0 := hide (And.intro BR (And.intro BK (And.intro Bf hOk)))
        clear hC hib BR BK Bf hAk hOk hEr hc
        cases hok : okT fVol p2 with
        | true =>
          rw [hok] at HC
          go_wp2_with fail
          refine (unhide HC).mono ?_
          rintro e z ⟨rfl, hAz, hOz⟩
          obtain ⟨BR, BK, Bf, hOk⟩ := unhide HBF0
          obtain ⟨h, hh⟩ : ∃ h, z.heap.size = h := ⟨_, rfl⟩
          obtain ⟨y1, hy1⟩ : ∃ Z, z.alloc (.cells #[.int .i64 0, .string ⟨#[]⟩, .slice none 0 0] 103) = Z := ⟨_, rfl⟩
          have hzk := hOz.size
          have hgk : g + 1 < wr.heap.size := BK.lt
          have hfk : fb < wr.heap.size := Bf.lt
          have hfb : fb ≠ b := by
            intro e
            subst e
            obtain ⟨_, _, _, hAk, _, _⟩ := unhide HK
            have e1 := (show wr.heap[fb]? = _ from Bf).symm.trans (show wr.heap[fb]? = _ from hAk)
            injection e1 with e1
            injection e1 with _ e2 _
            exact absurd e2 (by decide)
          have hfg : fb ≠ g ∧ fb ≠ g + 1 := by
            constructor
            · intro e
              subst e
              have e1 := (show wr.heap[fb]? = _ from Bf).symm.trans (show wr.heap[fb]? = _ from BR)
              injection e1 with e1
              injection e1 with _ e2 _
              exact absurd e2 (by decide)
            · intro e
              subst e
              have e1 := (show wr.heap[g + 1]? = _ from Bf).symm.trans (show wr.heap[g + 1]? = _ from BK)
              injection e1 with e1
              injection e1 with _ e2 _
              exact absurd e2 (by decide)
          have HFG := hide hfg
          have hb1 : Below h z y1 := by rw [← hy1, ← hh]; exact (Below.refl _ z).alloc (Nat.le_refl _) _
          have BZ1 : Blk y1 h #[.int .i64 0, .string ⟨#[]⟩, .slice none 0 0] 103 := by rw [← hy1, ← hh]; exact Blk.new z _ _
          have HZ3 := hide BZ1
          have HO3 := hide (Prt.one p2)
          obtain ⟨y2, hy2⟩ : ∃ Z, y1.setRow h p2.cs = Z := ⟨_, rfl⟩
          have hd : Blk y2 g #[.int .i64 0, .int .i64 0, .int .i64 0, .int .i64 0, .int .i64 0, .int .i64 0, .string ⟨#[]⟩, .string ⟨#[]⟩, .string ⟨#[]⟩, .string ⟨#[]⟩] 29 ∧ Blk y2 (g + 1) rk.cs 29 ∧ Blk y2 fb (fs.map fv).toArray 101 ∧ At y2 b s (i + 1) ∧ Only (fun j => j = b) w y2 := by
            rw [← hy2]
            refine ⟨blk_setRow_other ((BR.only hOz (by omega)).below hb1 (by omega)) (by omega), blk_setRow_other ((BK.only hOz (by omega)).below hb1 (by omega)) (by omega), blk_setRow_other ((Bf.only hOz hfb).below hb1 (by omega)) (by omega), (hAz.below hb1 (by omega)).set (by omega), ?_⟩
            exact ((hOk.trans hOz (fun _ _ q => q)).trans (Only.of_below (P := fun _ => False) (by rw [hh]; exact hb1)) (fun _ _ q => q.elim)).trans (only_setRow (P := fun j => j = h) h _ rfl) (fun j hj q => by have := hOk.size; omega)
          have BP2 : Blk y2 h p2.cs 103 := by rw [← hy2]; exact blk_setRow BZ1
          have HRP := hide (show y2.rangeAt h 0 p2.cl from blk_range BP2)
          have HRG := hide (show y2.rangeAt (g + 1) 0 rk.cl from blk_range hd.2.1)
          have HD := hide hd
          clear BR BK Bf hOk hb1 BZ1 BP2 hd hAz hOz hfg hfb hzk
          obtain ⟨r2, hr2⟩ : ∃ Z, (exq fVol rk p2).1 = Z := ⟨_, rfl⟩
          obtain ⟨q2, hq2⟩ : ∃ Z, (exq fVol rk p2).2 = Z := ⟨_, rfl⟩
          have hEX := exq_any fVol (by simp [IsQ]) rk p2
          rw [hr2, hq2] at hEX
          have HEX := hide hEX
          have HT2 := hide (show takeQ fs (Req.bare kd) s 1 = takeQ (fs.drop (k + 1)) r2 s (i + 1) by
            have h := unhide HTQ
            rw [hok, if_pos rfl, hr2] at h
            exact h)
          have HI2 := hide (show i + 1 + szF (fs.drop (k + 1)) ≤ s.size by
            have h := unhide HISZ
            have e : (fVol).b = 1 := rfl
            rw [e] at h
            omega)
          have HO2 := hide (Req.one r2)
          clear hEX hr2 hq2 HISZ HTQ HC HK
          go_wp2_with (first | refine wpList_store_row rfl 103 (.tmp 9) (.tmp 24) rfl h p2.cs rfl rfl 103 #[.int .i64 0, .string ⟨#[]⟩, .slice none 0 0] (unhide HZ3) size_prt rfl (unhide HO3) ?_ | refine wpList_load_mid rfl 29 (.tmp 6) rfl (g + 1) 0 rfl rk.cl _ (unhide HRG) Tryz.underlying29 rfl size_req ?_ | refine wpList_load_mid rfl 103 (.tmp 9) rfl h 0 rfl p2.cl _ (unhide HRP) Tryz.underlying103 rfl size_prt ?_)
          refine (unhide HEX _).mono ?_
          rintro e x3 ⟨rfl, hx3⟩
          obtain ⟨D1, D2, D3, D4, D5⟩ := unhide HD
          have E2 := D2.below hx3 D2.lt
          have HZ4 := hide E2
          have HFIN := hide (show Blk (x3.setRow (g + 1) r2.cs) g #[.int .i64 0, .int .i64 0, .int .i64 0, .int .i64 0, .int .i64 0, .int .i64 0, .string ⟨#[]⟩, .string ⟨#[]⟩, .string ⟨#[]⟩, .string ⟨#[]⟩] 29 ∧ Blk (x3.setRow (g + 1) r2.cs) (g + 1) r2.cs 29 ∧ FR (x3.setRow (g + 1) r2.cs) (.slice (some ⟨fb, 0, none⟩) n n) fs ∧ At (x3.setRow (g + 1) r2.cs) b s (i + 1) ∧ Only (fun j => j = b) w (x3.setRow (g + 1) r2.cs) from
            ⟨blk_setRow_other (D1.below hx3 D1.lt) (by omega), blk_setRow E2, .inr ⟨fb, by rw [hlen], blk_setRow_other (D3.below hx3 D3.lt) (by have := unhide HFG; omega)⟩, (D4.below hx3 D4.lt).set (by omega), (D5.trans (Only.of_below (P := fun _ => False) hx3) (fun _ _ q => q.elim)).trans (only_setRow (P := fun j => j = g + 1) (g + 1) _ rfl) (fun j hj q => by omega)⟩)
          clear D1 D2 D3 D4 D5 E2 hx3 HD
          go_wp2_with (refine wpList_store_row rfl 29 (.tmp 6) (.tmp 34) rfl (g + 1) r2.cs rfl rfl 29 rk.cs (unhide HZ4) size_req rfl (unhide HO2) ?_)
          obtain ⟨F1, F2, F3, F4, F5⟩ := unhide HFIN
          exact ⟨⟨k + 1, r2, i + 1, by omega, rfl, unhide HT2, unhide HI2, F1, F2, F3, F4, F5⟩, by simp [intOf]; omega⟩
        | false =>
          rw [hok] at HC
          go_wp2_with fail
          refine (unhide HC).mono ?_
          rintro e z ⟨rfl, hAz, hOz⟩
          obtain ⟨BR, BK, Bf, hOk⟩ := unhide HBF0
          obtain ⟨h, hh⟩ : ∃ h, z.heap.size = h := ⟨_, rfl⟩
          obtain ⟨y1, hy1⟩ : ∃ Z, z.alloc (.cells #[.int .i64 0, .string ⟨#[]⟩, .slice none 0 0] 103) = Z := ⟨_, rfl⟩
          have hzk := hOz.size
          have hgk : g + 1 < wr.heap.size := BK.lt
          have hfk : fb < wr.heap.size := Bf.lt
          have hfb : fb ≠ b := by
            intro e
            subst e
            obtain ⟨_, _, _, hAk, _, _⟩ := unhide HK
            have e1 := (show wr.heap[fb]? = _ from Bf).symm.trans (show wr.heap[fb]? = _ from hAk)
            injection e1 with e1
            injection e1 with _ e2 _
            exact absurd e2 (by decide)
          have hfg : fb ≠ g ∧ fb ≠ g + 1 := by
            constructor
            · intro e
              subst e
              have e1 := (show wr.heap[fb]? = _ from Bf).symm.trans (show wr.heap[fb]? = _ from BR)
              injection e1 with e1
              injection e1 with _ e2 _
              exact absurd e2 (by decide)
            · intro e
              subst e
              have e1 := (show wr.heap[g + 1]? = _ from Bf).symm.trans (show wr.heap[g + 1]? = _ from BK)
              injection e1 with e1
              injection e1 with _ e2 _
              exact absurd e2 (by decide)
          have HFG := hide hfg
          have hb1 : Below h z y1 := by rw [← hy1, ← hh]; exact (Below.refl _ z).alloc (Nat.le_refl _) _
          have BZ1 : Blk y1 h #[.int .i64 0, .string ⟨#[]⟩, .slice none 0 0] 103 := by rw [← hy1, ← hh]; exact Blk.new z _ _
          have HZ3 := hide BZ1
          have HO3 := hide (Prt.one p2)
          obtain ⟨y2, hy2⟩ : ∃ Z, y1.setRow h p2.cs = Z := ⟨_, rfl⟩
          have hd : Blk y2 g #[.int .i64 0, .int .i64 0, .int .i64 0, .int .i64 0, .int .i64 0, .int .i64 0, .string ⟨#[]⟩, .string ⟨#[]⟩, .string ⟨#[]⟩, .string ⟨#[]⟩] 29 ∧ Blk y2 (g + 1) rk.cs 29 ∧ Blk y2 fb (fs.map fv).toArray 101 ∧ At y2 b s (i + 1) ∧ Only (fun j => j = b) w y2 := by
            rw [← hy2]
            refine ⟨blk_setRow_other ((BR.only hOz (by omega)).below hb1 (by omega)) (by omega), blk_setRow_other ((BK.only hOz (by omega)).below hb1 (by omega)) (by omega), blk_setRow_other ((Bf.only hOz hfb).below hb1 (by omega)) (by omega), (hAz.below hb1 (by omega)).set (by omega), ?_⟩
            exact ((hOk.trans hOz (fun _ _ q => q)).trans (Only.of_below (P := fun _ => False) (by rw [hh]; exact hb1)) (fun _ _ q => q.elim)).trans (only_setRow (P := fun j => j = h) h _ rfl) (fun j hj q => by have := hOk.size; omega)
          have BP2 : Blk y2 h p2.cs 103 := by rw [← hy2]; exact blk_setRow BZ1
          have HRP := hide (show y2.rangeAt h 0 p2.cl from blk_range BP2)
          have HRG := hide (show y2.rangeAt (g + 1) 0 rk.cl from blk_range hd.2.1)
          have HD := hide hd
          clear BR BK Bf hOk hb1 BZ1 BP2 hd hAz hOz hfg hfb hzk
          have HR1 := hide (show TR = Req.bare 0 ∧ TB = false by
            have h := unhide HTQ
            rw [hok, if_neg (by decide)] at h
            have h1 := unhide HTR
            have h2 := unhide HTB
            rw [h] at h1 h2
            exact ⟨h1, h2⟩)
          obtain ⟨D1, D2, D3, D4, D5⟩ := unhide HD
          have BT := blk_setRow (cells := (Req.bare 0).cs) D1
          have HL := hide (iload_blk 29 _ BT Tryz.underlying29 rfl size_req)
          have HZ5 := hide D1
          have HO5 := hide (Req.one (Req.bare 0))
          have HBN := hide built_none
          have HF2 := hide (show Only (fun j => j = b) w (y2.setRow g (Req.bare 0).cs) from D5.trans (only_setRow (P := fun j => j = g) g _ rfl) (fun j hj q => by omega))
          clear D1 D2 D3 D4 D5 BT HD HISZ HTQ HC HK
          go_wp2_with (first | refine wpList_store_row rfl 103 (.tmp 9) (.tmp 24) rfl h p2.cs rfl rfl 103 #[.int .i64 0, .string ⟨#[]⟩, .slice none 0 0] (unhide HZ3) size_prt rfl (unhide HO3) ?_ | refine wpList_buildAs rfl 29 #[] rfl _ rfl (Req.bare 0).cs (unhide HBN) ?_ | refine wpList_store_row rfl 29 (.tmp 4) (.tmp 28) rfl g (Req.bare 0).cs rfl rfl 29 #[.int .i64 0, .int .i64 0, .int .i64 0, .int .i64 0, .int .i64 0, .int .i64 0, .string ⟨#[]⟩, .string ⟨#[]⟩, .string ⟨#[]⟩, .string ⟨#[]⟩] (unhide HZ5) size_req rfl (unhide HO5) ?_)
          (try simp only [Exit.inBlock, Exit.then])
          refine bodyPost_ret (v := .tuple #[.agg (Req.bare 0).cs, .bool false]) (results_cell2 (p := 4) (q := 5) (ty := 29) rfl _ _ _ ⟨g, 0, none⟩ rfl _ (unhide HL)) rfl ?_
          exact ⟨by rw [(unhide HR1).1, (unhide HR1).2], unhide HF2⟩
      · obtain ⟨BR, BK, Bf, hAk, hOk, hEr⟩ := unhide HK
        have hib : i + 1 ≤ s.size := by have h := unhide HISZ; have e : (fBlo).b = 1 := rfl; rw [e] at h; omega
        have hC : Calls Tryz.prog 132 #[.agg #[.int .i64 1, .int .i64 0, .int .i64 255], .pointer (some ⟨b, 0, none⟩)] wr fun e w' => e = .returned (.tuple #[.agg (prF fBlo s i).cs, .bool (okT fBlo (prF fBlo s i))]) ∧ At w' b s (i + 1) ∧ Only (fun j => j = b) wr w' := ntake_any 1 0 255 (by decide) (by decide) wr b s i hAk hEr hs hib _ rfl
        rw [unhide HP2] at hC
        have HC := hide hC
        have hc' : wr.cell? ⟨fb, k, none⟩ = some (.iface 125 (.agg #[.int .i64 1, .int .i64 0, .int .i64 255])) := hc
        have HBF0 := hide (And.intro BR (And.intro BK (And.intro Bf hOk)))
        clear hC hib BR BK Bf hAk hOk hEr hc
        cases hok : okT fBlo p2 with
        | true =>
          rw [hok] at HC
          go_wp2_with fail
          refine (unhide HC).mono ?_
          rintro e z ⟨rfl, hAz, hOz⟩
          obtain ⟨BR, BK, Bf, hOk⟩ := unhide HBF0
          obtain ⟨h, hh⟩ : ∃ h, z.heap.size = h := ⟨_, rfl⟩
          obtain ⟨y1, hy1⟩ : ∃ Z, z.alloc (.cells #[.int .i64 0, .string ⟨#[]⟩, .slice none 0 0] 103) = Z := ⟨_, rfl⟩
          have hzk := hOz.size
          have hgk : g + 1 < wr.heap.size := BK.lt
          have hfk : fb < wr.heap.size := Bf.lt
          have hfb : fb ≠ b := by
            intro e
            subst e
            obtain ⟨_, _, _, hAk, _, _⟩ := unhide HK
            have e1 := (show wr.heap[fb]? = _ from Bf).symm.trans (show wr.heap[fb]? = _ from hAk)
            injection e1 with e1
            injection e1 with _ e2 _
            exact absurd e2 (by decide)
          have hfg : fb ≠ g ∧ fb ≠ g + 1 := by
            constructor
            · intro e
              subst e
              have e1 := (show wr.heap[fb]? = _ from Bf).symm.trans (show wr.heap[fb]? = _ from BR)
              injection e1 with e1
              injection e1 with _ e2 _
              exact absurd e2 (by decide)
            · intro e
              subst e
              have e1 := (show wr.heap[g + 1]? = _ from Bf).symm.trans (show wr.heap[g + 1]? = _ from BK)
              injection e1 with e1
              injection e1 with _ e2 _
              exact absurd e2 (by decide)
          have HFG := hide hfg
          have hb1 : Below h z y1 := by rw [← hy1, ← hh]; exact (Below.refl _ z).alloc (Nat.le_refl _) _
          have BZ1 : Blk y1 h #[.int .i64 0, .string ⟨#[]⟩, .slice none 0 0] 103 := by rw [← hy1, ← hh]; exact Blk.new z _ _
          have HZ3 := hide BZ1
          have HO3 := hide (Prt.one p2)
          obtain ⟨y2, hy2⟩ : ∃ Z, y1.setRow h p2.cs = Z := ⟨_, rfl⟩
          have hd : Blk y2 g #[.int .i64 0, .int .i64 0, .int .i64 0, .int .i64 0, .int .i64 0, .int .i64 0, .string ⟨#[]⟩, .string ⟨#[]⟩, .string ⟨#[]⟩, .string ⟨#[]⟩] 29 ∧ Blk y2 (g + 1) rk.cs 29 ∧ Blk y2 fb (fs.map fv).toArray 101 ∧ At y2 b s (i + 1) ∧ Only (fun j => j = b) w y2 := by
            rw [← hy2]
            refine ⟨blk_setRow_other ((BR.only hOz (by omega)).below hb1 (by omega)) (by omega), blk_setRow_other ((BK.only hOz (by omega)).below hb1 (by omega)) (by omega), blk_setRow_other ((Bf.only hOz hfb).below hb1 (by omega)) (by omega), (hAz.below hb1 (by omega)).set (by omega), ?_⟩
            exact ((hOk.trans hOz (fun _ _ q => q)).trans (Only.of_below (P := fun _ => False) (by rw [hh]; exact hb1)) (fun _ _ q => q.elim)).trans (only_setRow (P := fun j => j = h) h _ rfl) (fun j hj q => by have := hOk.size; omega)
          have BP2 : Blk y2 h p2.cs 103 := by rw [← hy2]; exact blk_setRow BZ1
          have HRP := hide (show y2.rangeAt h 0 p2.cl from blk_range BP2)
          have HRG := hide (show y2.rangeAt (g + 1) 0 rk.cl from blk_range hd.2.1)
          have HD := hide hd
          clear BR BK Bf hOk hb1 BZ1 BP2 hd hAz hOz hfg hfb hzk
          obtain ⟨r2, hr2⟩ : ∃ Z, (exq fBlo rk p2).1 = Z := ⟨_, rfl⟩
          obtain ⟨q2, hq2⟩ : ∃ Z, (exq fBlo rk p2).2 = Z := ⟨_, rfl⟩
          have hEX := exq_any fBlo (by simp [IsQ]) rk p2
          rw [hr2, hq2] at hEX
          have HEX := hide hEX
          have HT2 := hide (show takeQ fs (Req.bare kd) s 1 = takeQ (fs.drop (k + 1)) r2 s (i + 1) by
            have h := unhide HTQ
            rw [hok, if_pos rfl, hr2] at h
            exact h)
          have HI2 := hide (show i + 1 + szF (fs.drop (k + 1)) ≤ s.size by
            have h := unhide HISZ
            have e : (fBlo).b = 1 := rfl
            rw [e] at h
            omega)
          have HO2 := hide (Req.one r2)
          clear hEX hr2 hq2 HISZ HTQ HC HK
          go_wp2_with (first | refine wpList_store_row rfl 103 (.tmp 9) (.tmp 24) rfl h p2.cs rfl rfl 103 #[.int .i64 0, .string ⟨#[]⟩, .slice none 0 0] (unhide HZ3) size_prt rfl (unhide HO3) ?_ | refine wpList_load_mid rfl 29 (.tmp 6) rfl (g + 1) 0 rfl rk.cl _ (unhide HRG) Tryz.underlying29 rfl size_req ?_ | refine wpList_load_mid rfl 103 (.tmp 9) rfl h 0 rfl p2.cl _ (unhide HRP) Tryz.underlying103 rfl size_prt ?_)
          refine (unhide HEX _).mono ?_
          rintro e x3 ⟨rfl, hx3⟩
          obtain ⟨D1, D2, D3, D4, D5⟩ := unhide HD
          have E2 := D2.below hx3 D2.lt
          have HZ4 := hide E2
          have HFIN := hide (show Blk (x3.setRow (g + 1) r2.cs) g #[.int .i64 0, .int .i64 0, .int .i64 0, .int .i64 0, .int .i64 0, .int .i64 0, .string ⟨#[]⟩, .string ⟨#[]⟩, .string ⟨#[]⟩, .string ⟨#[]⟩] 29 ∧ Blk (x3.setRow (g + 1) r2.cs) (g + 1) r2.cs 29 ∧ FR (x3.setRow (g + 1) r2.cs) (.slice (some ⟨fb, 0, none⟩) n n) fs ∧ At (x3.setRow (g + 1) r2.cs) b s (i + 1) ∧ Only (fun j => j = b) w (x3.setRow (g + 1) r2.cs) from
            ⟨blk_setRow_other (D1.below hx3 D1.lt) (by omega), blk_setRow E2, .inr ⟨fb, by rw [hlen], blk_setRow_other (D3.below hx3 D3.lt) (by have := unhide HFG; omega)⟩, (D4.below hx3 D4.lt).set (by omega), (D5.trans (Only.of_below (P := fun _ => False) hx3) (fun _ _ q => q.elim)).trans (only_setRow (P := fun j => j = g + 1) (g + 1) _ rfl) (fun j hj q => by omega)⟩)
          clear D1 D2 D3 D4 D5 E2 hx3 HD
          go_wp2_with (refine wpList_store_row rfl 29 (.tmp 6) (.tmp 34) rfl (g + 1) r2.cs rfl rfl 29 rk.cs (unhide HZ4) size_req rfl (unhide HO2) ?_)
          obtain ⟨F1, F2, F3, F4, F5⟩ := unhide HFIN
          exact ⟨⟨k + 1, r2, i + 1, by omega, rfl, unhide HT2, unhide HI2, F1, F2, F3, F4, F5⟩, by simp [intOf]; omega⟩
        | false =>
          rw [hok] at HC
          go_wp2_with fail
          refine (unhide HC).mono ?_
          rintro e z ⟨rfl, hAz, hOz⟩
          obtain ⟨BR, BK, Bf, hOk⟩ := unhide HBF0
          obtain ⟨h, hh⟩ : ∃ h, z.heap.size = h := ⟨_, rfl⟩
          obtain ⟨y1, hy1⟩ : ∃ Z, z.alloc (.cells #[.int .i64 0, .string ⟨#[]⟩, .slice none 0 0] 103) = Z := ⟨_, rfl⟩
          have hzk := hOz.size
          have hgk : g + 1 < wr.heap.size := BK.lt
          have hfk : fb < wr.heap.size := Bf.lt
          have hfb : fb ≠ b := by
            intro e
            subst e
            obtain ⟨_, _, _, hAk, _, _⟩ := unhide HK
            have e1 := (show wr.heap[fb]? = _ from Bf).symm.trans (show wr.heap[fb]? = _ from hAk)
            injection e1 with e1
            injection e1 with _ e2 _
            exact absurd e2 (by decide)
          have hfg : fb ≠ g ∧ fb ≠ g + 1 := by
            constructor
            · intro e
              subst e
              have e1 := (show wr.heap[fb]? = _ from Bf).symm.trans (show wr.heap[fb]? = _ from BR)
              injection e1 with e1
              injection e1 with _ e2 _
              exact absurd e2 (by decide)
            · intro e
              subst e
              have e1 := (show wr.heap[g + 1]? = _ from Bf).symm.trans (show wr.heap[g + 1]? = _ from BK)
              injection e1 with e1
              injection e1 with _ e2 _
              exact absurd e2 (by decide)
          have HFG := hide hfg
          have hb1 : Below h z y1 := by rw [← hy1, ← hh]; exact (Below.refl _ z).alloc (Nat.le_refl _) _
          have BZ1 : Blk y1 h #[.int .i64 0, .string ⟨#[]⟩, .slice none 0 0] 103 := by rw [← hy1, ← hh]; exact Blk.new z _ _
          have HZ3 := hide BZ1
          have HO3 := hide (Prt.one p2)
          obtain ⟨y2, hy2⟩ : ∃ Z, y1.setRow h p2.cs = Z := ⟨_, rfl⟩
          have hd : Blk y2 g #[.int .i64 0, .int .i64 0, .int .i64 0, .int .i64 0, .int .i64 0, .int .i64 0, .string ⟨#[]⟩, .string ⟨#[]⟩, .string ⟨#[]⟩, .string ⟨#[]⟩] 29 ∧ Blk y2 (g + 1) rk.cs 29 ∧ Blk y2 fb (fs.map fv).toArray 101 ∧ At y2 b s (i + 1) ∧ Only (fun j => j = b) w y2 := by
            rw [← hy2]
            refine ⟨blk_setRow_other ((BR.only hOz (by omega)).below hb1 (by omega)) (by omega), blk_setRow_other ((BK.only hOz (by omega)).below hb1 (by omega)) (by omega), blk_setRow_other ((Bf.only hOz hfb).below hb1 (by omega)) (by omega), (hAz.below hb1 (by omega)).set (by omega), ?_⟩
            exact ((hOk.trans hOz (fun _ _ q => q)).trans (Only.of_below (P := fun _ => False) (by rw [hh]; exact hb1)) (fun _ _ q => q.elim)).trans (only_setRow (P := fun j => j = h) h _ rfl) (fun j hj q => by have := hOk.size; omega)
          have BP2 : Blk y2 h p2.cs 103 := by rw [← hy2]; exact blk_setRow BZ1
          have HRP := hide (show y2.rangeAt h 0 p2.cl from blk_range BP2)
          have HRG := hide (show y2.rangeAt (g + 1) 0 rk.cl from blk_range hd.2.1)
          have HD := hide hd
          clear BR BK Bf hOk hb1 BZ1 BP2 hd hAz hOz hfg hfb hzk
          have HR1 := hide (show TR = Req.bare 0 ∧ TB = false by
            have h := unhide HTQ
            rw [hok, if_neg (by decide)] at h
            have h1 := unhide HTR
            have h2 := unhide HTB
            rw [h] at h1 h2
            exact ⟨h1, h2⟩)
          obtain ⟨D1, D2, D3, D4, D5⟩ := unhide HD
          have BT := blk_setRow (cells := (Req.bare 0).cs) D1
          have HL := hide (iload_blk 29 _ BT Tryz.underlying29 rfl size_req)
          have HZ5 := hide D1
          have HO5 := hide (Req.one (Req.bare 0))
          have HBN := hide built_none
          have HF2 := hide (show Only (fun j => j = b) w (y2.setRow g (Req.bare 0).cs) from D5.trans (only_setRow (P := fun j => j = g) g _ rfl) (fun j hj q => by omega))
          clear D1 D2 D3 D4 D5 BT HD HISZ HTQ HC HK
          go_wp2_with (first | refine wpList_store_row rfl 103 (.tmp 9) (.tmp 24) rfl h p2.cs rfl rfl 103 #[.int .i64 0, .string ⟨#[]⟩, .slice none 0 0] (unhide HZ3) size_prt rfl (unhide HO3) ?_ | refine wpList_buildAs rfl 29 #[] rfl _ rfl (Req.bare 0).cs (unhide HBN) ?_ | refine wpList_store_row rfl 29 (.tmp 4) (.tmp 28) rfl g (Req.bare 0).cs rfl rfl 29 #[.int .i64 0, .int .i64 0, .int .i64 0, .int .i64 0, .int .i64 0, .int .i64 0, .string ⟨#[]⟩, .string ⟨#[]⟩, .string ⟨#[]⟩, .string ⟨#[]⟩] (unhide HZ5) size_req rfl (unhide HO5) ?_)
          (try simp only [Exit.inBlock, Exit.then])
          refine bodyPost_ret (v := .tuple #[.agg (Req.bare 0).cs, .bool false]) (results_cell2 (p := 4) (q := 5) (ty := 29) rfl _ _ _ ⟨g, 0, none⟩ rfl _ (unhide HL)) rfl ?_
          exact ⟨by rw [(unhide HR1).1, (unhide HR1).2], unhide HF2⟩
      · obtain ⟨BR, BK, Bf, hAk, hOk, hEr⟩ := unhide HK
        have hib : i + 4 ≤ s.size := by have h := unhide HISZ; have e : (fNon).b = 4 := rfl; rw [e] at h; omega
        have hC : Calls Tryz.prog 132 #[.agg #[.int .i64 4, .int .i64 0, .int .i64 4294967295], .pointer (some ⟨b, 0, none⟩)] wr fun e w' => e = .returned (.tuple #[.agg (prF fNon s i).cs, .bool (okT fNon (prF fNon s i))]) ∧ At w' b s (i + 4) ∧ Only (fun j => j = b) wr w' := ntake_any 4 0 4294967295 (by decide) (by decide) wr b s i hAk hEr hs hib _ rfl
        rw [unhide HP2] at hC
        have HC := hide hC
        have hc' : wr.cell? ⟨fb, k, none⟩ = some (.iface 126 (.agg #[.int .i64 4, .int .i64 0, .int .i64 4294967295])) := hc
        have HBF0 := hide (And.intro BR (And.intro BK (And.intro Bf hOk)))
        clear hC hib BR BK Bf hAk hOk hEr hc
        cases hok : okT fNon p2 with
        | true =>
          rw [hok] at HC
          go_wp2_with fail
          refine (unhide HC).mono ?_
          rintro e z ⟨rfl, hAz, hOz⟩
          obtain ⟨BR, BK, Bf, hOk⟩ := unhide HBF0
          obtain ⟨h, hh⟩ : ∃ h, z.heap.size = h := ⟨_, rfl⟩
          obtain ⟨y1, hy1⟩ : ∃ Z, z.alloc (.cells #[.int .i64 0, .string ⟨#[]⟩, .slice none 0 0] 103) = Z := ⟨_, rfl⟩
          have hzk := hOz.size
          have hgk : g + 1 < wr.heap.size := BK.lt
          have hfk : fb < wr.heap.size := Bf.lt
          have hfb : fb ≠ b := by
            intro e
            subst e
            obtain ⟨_, _, _, hAk, _, _⟩ := unhide HK
            have e1 := (show wr.heap[fb]? = _ from Bf).symm.trans (show wr.heap[fb]? = _ from hAk)
            injection e1 with e1
            injection e1 with _ e2 _
            exact absurd e2 (by decide)
          have hfg : fb ≠ g ∧ fb ≠ g + 1 := by
            constructor
            · intro e
              subst e
              have e1 := (show wr.heap[fb]? = _ from Bf).symm.trans (show wr.heap[fb]? = _ from BR)
              injection e1 with e1
              injection e1 with _ e2 _
              exact absurd e2 (by decide)
            · intro e
              subst e
              have e1 := (show wr.heap[g + 1]? = _ from Bf).symm.trans (show wr.heap[g + 1]? = _ from BK)
              injection e1 with e1
              injection e1 with _ e2 _
              exact absurd e2 (by decide)
          have HFG := hide hfg
          have hb1 : Below h z y1 := by rw [← hy1, ← hh]; exact (Below.refl _ z).alloc (Nat.le_refl _) _
          have BZ1 : Blk y1 h #[.int .i64 0, .string ⟨#[]⟩, .slice none 0 0] 103 := by rw [← hy1, ← hh]; exact Blk.new z _ _
          have HZ3 := hide BZ1
          have HO3 := hide (Prt.one p2)
          obtain ⟨y2, hy2⟩ : ∃ Z, y1.setRow h p2.cs = Z := ⟨_, rfl⟩
          have hd : Blk y2 g #[.int .i64 0, .int .i64 0, .int .i64 0, .int .i64 0, .int .i64 0, .int .i64 0, .string ⟨#[]⟩, .string ⟨#[]⟩, .string ⟨#[]⟩, .string ⟨#[]⟩] 29 ∧ Blk y2 (g + 1) rk.cs 29 ∧ Blk y2 fb (fs.map fv).toArray 101 ∧ At y2 b s (i + 4) ∧ Only (fun j => j = b) w y2 := by
            rw [← hy2]
            refine ⟨blk_setRow_other ((BR.only hOz (by omega)).below hb1 (by omega)) (by omega), blk_setRow_other ((BK.only hOz (by omega)).below hb1 (by omega)) (by omega), blk_setRow_other ((Bf.only hOz hfb).below hb1 (by omega)) (by omega), (hAz.below hb1 (by omega)).set (by omega), ?_⟩
            exact ((hOk.trans hOz (fun _ _ q => q)).trans (Only.of_below (P := fun _ => False) (by rw [hh]; exact hb1)) (fun _ _ q => q.elim)).trans (only_setRow (P := fun j => j = h) h _ rfl) (fun j hj q => by have := hOk.size; omega)
          have BP2 : Blk y2 h p2.cs 103 := by rw [← hy2]; exact blk_setRow BZ1
          have HRP := hide (show y2.rangeAt h 0 p2.cl from blk_range BP2)
          have HRG := hide (show y2.rangeAt (g + 1) 0 rk.cl from blk_range hd.2.1)
          have HD := hide hd
          clear BR BK Bf hOk hb1 BZ1 BP2 hd hAz hOz hfg hfb hzk
          obtain ⟨r2, hr2⟩ : ∃ Z, (exq fNon rk p2).1 = Z := ⟨_, rfl⟩
          obtain ⟨q2, hq2⟩ : ∃ Z, (exq fNon rk p2).2 = Z := ⟨_, rfl⟩
          have hEX := exq_any fNon (by simp [IsQ]) rk p2
          rw [hr2, hq2] at hEX
          have HEX := hide hEX
          have HT2 := hide (show takeQ fs (Req.bare kd) s 1 = takeQ (fs.drop (k + 1)) r2 s (i + 4) by
            have h := unhide HTQ
            rw [hok, if_pos rfl, hr2] at h
            exact h)
          have HI2 := hide (show i + 4 + szF (fs.drop (k + 1)) ≤ s.size by
            have h := unhide HISZ
            have e : (fNon).b = 4 := rfl
            rw [e] at h
            omega)
          have HO2 := hide (Req.one r2)
          clear hEX hr2 hq2 HISZ HTQ HC HK
          go_wp2_with (first | refine wpList_store_row rfl 103 (.tmp 9) (.tmp 24) rfl h p2.cs rfl rfl 103 #[.int .i64 0, .string ⟨#[]⟩, .slice none 0 0] (unhide HZ3) size_prt rfl (unhide HO3) ?_ | refine wpList_load_mid rfl 29 (.tmp 6) rfl (g + 1) 0 rfl rk.cl _ (unhide HRG) Tryz.underlying29 rfl size_req ?_ | refine wpList_load_mid rfl 103 (.tmp 9) rfl h 0 rfl p2.cl _ (unhide HRP) Tryz.underlying103 rfl size_prt ?_)
          refine (unhide HEX _).mono ?_
          rintro e x3 ⟨rfl, hx3⟩
          obtain ⟨D1, D2, D3, D4, D5⟩ := unhide HD
          have E2 := D2.below hx3 D2.lt
          have HZ4 := hide E2
          have HFIN := hide (show Blk (x3.setRow (g + 1) r2.cs) g #[.int .i64 0, .int .i64 0, .int .i64 0, .int .i64 0, .int .i64 0, .int .i64 0, .string ⟨#[]⟩, .string ⟨#[]⟩, .string ⟨#[]⟩, .string ⟨#[]⟩] 29 ∧ Blk (x3.setRow (g + 1) r2.cs) (g + 1) r2.cs 29 ∧ FR (x3.setRow (g + 1) r2.cs) (.slice (some ⟨fb, 0, none⟩) n n) fs ∧ At (x3.setRow (g + 1) r2.cs) b s (i + 4) ∧ Only (fun j => j = b) w (x3.setRow (g + 1) r2.cs) from
            ⟨blk_setRow_other (D1.below hx3 D1.lt) (by omega), blk_setRow E2, .inr ⟨fb, by rw [hlen], blk_setRow_other (D3.below hx3 D3.lt) (by have := unhide HFG; omega)⟩, (D4.below hx3 D4.lt).set (by omega), (D5.trans (Only.of_below (P := fun _ => False) hx3) (fun _ _ q => q.elim)).trans (only_setRow (P := fun j => j = g + 1) (g + 1) _ rfl) (fun j hj q => by omega)⟩)
          clear D1 D2 D3 D4 D5 E2 hx3 HD
          go_wp2_with (refine wpList_store_row rfl 29 (.tmp 6) (.tmp 34) rfl (g + 1) r2.cs rfl rfl 29 rk.cs (unhide HZ4) size_req rfl (unhide HO2) ?_)
          obtain ⟨F1, F2, F3, F4, F5⟩ := unhide HFIN
          exact ⟨⟨k + 1, r2, i + 4, by omega, rfl, unhide HT2, unhide HI2, F1, F2, F3, F4, F5⟩, by simp [intOf]; omega⟩
        | false =>
          rw [hok] at HC
          go_wp2_with fail
          refine (unhide HC).mono ?_
          rintro e z ⟨rfl, hAz, hOz⟩
          obtain ⟨BR, BK, Bf, hOk⟩ := unhide HBF0
          obtain ⟨h, hh⟩ : ∃ h, z.heap.size = h := ⟨_, rfl⟩
          obtain ⟨y1, hy1⟩ : ∃ Z, z.alloc (.cells #[.int .i64 0, .string ⟨#[]⟩, .slice none 0 0] 103) = Z := ⟨_, rfl⟩
          have hzk := hOz.size
          have hgk : g + 1 < wr.heap.size := BK.lt
          have hfk : fb < wr.heap.size := Bf.lt
          have hfb : fb ≠ b := by
            intro e
            subst e
            obtain ⟨_, _, _, hAk, _, _⟩ := unhide HK
            have e1 := (show wr.heap[fb]? = _ from Bf).symm.trans (show wr.heap[fb]? = _ from hAk)
            injection e1 with e1
            injection e1 with _ e2 _
            exact absurd e2 (by decide)
          have hfg : fb ≠ g ∧ fb ≠ g + 1 := by
            constructor
            · intro e
              subst e
              have e1 := (show wr.heap[fb]? = _ from Bf).symm.trans (show wr.heap[fb]? = _ from BR)
              injection e1 with e1
              injection e1 with _ e2 _
              exact absurd e2 (by decide)
            · intro e
              subst e
              have e1 := (show wr.heap[g + 1]? = _ from Bf).symm.trans (show wr.heap[g + 1]? = _ from BK)
              injection e1 with e1
              injection e1 with _ e2 _
              exact absurd e2 (by decide)
          have HFG := hide hfg
          have hb1 : Below h z y1 := by rw [← hy1, ← hh]; exact (Below.refl _ z).alloc (Nat.le_refl _) _
          have BZ1 : Blk y1 h #[.int .i64 0, .string ⟨#[]⟩, .slice none 0 0] 103 := by rw [← hy1, ← hh]; exact Blk.new z _ _
          have HZ3 := hide BZ1
          have HO3 := hide (Prt.one p2)
          obtain ⟨y2, hy2⟩ : ∃ Z, y1.setRow h p2.cs = Z := ⟨_, rfl⟩
          have hd : Blk y2 g #[.int .i64 0, .int .i64 0, .int .i64 0, .int .i64 0, .int .i64 0, .int .i64 0, .string ⟨#[]⟩, .string ⟨#[]⟩, .string ⟨#[]⟩, .string ⟨#[]⟩] 29 ∧ Blk y2 (g + 1) rk.cs 29 ∧ Blk y2 fb (fs.map fv).toArray 101 ∧ At y2 b s (i + 4) ∧ Only (fun j => j = b) w y2 := by
            rw [← hy2]
            refine ⟨blk_setRow_other ((BR.only hOz (by omega)).below hb1 (by omega)) (by omega), blk_setRow_other ((BK.only hOz (by omega)).below hb1 (by omega)) (by omega), blk_setRow_other ((Bf.only hOz hfb).below hb1 (by omega)) (by omega), (hAz.below hb1 (by omega)).set (by omega), ?_⟩
            exact ((hOk.trans hOz (fun _ _ q => q)).trans (Only.of_below (P := fun _ => False) (by rw [hh]; exact hb1)) (fun _ _ q => q.elim)).trans (only_setRow (P := fun j => j = h) h _ rfl) (fun j hj q => by have := hOk.size; omega)
          have BP2 : Blk y2 h p2.cs 103 := by rw [← hy2]; exact blk_setRow BZ1
          have HRP := hide (show y2.rangeAt h 0 p2.cl from blk_range BP2)
          have HRG := hide (show y2.rangeAt (g + 1) 0 rk.cl from blk_range hd.2.1)
          have HD := hide hd
          clear BR BK Bf hOk hb1 BZ1 BP2 hd hAz hOz hfg hfb hzk
          have HR1 := hide (show TR = Req.bare 0 ∧ TB = false by
            have h := unhide HTQ
            rw [hok, if_neg (by decide)] at h
            have h1 := unhide HTR
            have h2 := unhide HTB
            rw [h] at h1 h2
            exact ⟨h1, h2⟩)
          obtain ⟨D1, D2, D3, D4, D5⟩ := unhide HD
          have BT := blk_setRow (cells := (Req.bare 0).cs) D1
          have HL := hide (iload_blk 29 _ BT Tryz.underlying29 rfl size_req)
          have HZ5 := hide D1
          have HO5 := hide (Req.one (Req.bare 0))
          have HBN := hide built_none
          have HF2 := hide (show Only (fun j => j = b) w (y2.setRow g (Req.bare 0).cs) from D5.trans (only_setRow (P := fun j => j = g) g _ rfl) (fun j hj q => by omega))
          clear D1 D2 D3 D4 D5 BT HD HISZ HTQ HC HK
          go_wp2_with (first | refine wpList_store_row rfl 103 (.tmp 9) (.tmp 24) rfl h p2.cs rfl rfl 103 #[.int .i64 0, .string ⟨#[]⟩, .slice none 0 0] (unhide HZ3) size_prt rfl (unhide HO3) ?_ | refine wpList_buildAs rfl 29 #[] rfl _ rfl (Req.bare 0).cs (unhide HBN) ?_ | refine wpList_store_row rfl 29 (.tmp 4) (.tmp 28) rfl g (Req.bare 0).cs rfl rfl 29 #[.int .i64 0, .int .i64 0, .int .i64 0, .int .i64 0, .int .i64 0, .int .i64 0, .string ⟨#[]⟩, .string ⟨#[]⟩, .string ⟨#[]⟩, .string ⟨#[]⟩] (unhide HZ5) size_req rfl (unhide HO5) ?_)
          (try simp only [Exit.inBlock, Exit.then])
          refine bodyPost_ret (v := .tuple #[.agg (Req.bare 0).cs, .bool false]) (results_cell2 (p := 4) (q := 5) (ty := 29) rfl _ _ _ ⟨g, 0, none⟩ rfl _ (unhide HL)) rfl ?_
          exact ⟨by rw [(unhide HR1).1, (unhide HR1).2], unhide HF2⟩
      · obtain ⟨BR, BK, Bf, hAk, hOk, hEr⟩ := unhide HK
        have hib : i + 32 ≤ s.size := by have h := unhide HISZ; have e : (fDig).b = 32 := rfl; rw [e] at h; omega
        have hC : Calls Tryz.prog 136 #[.agg #[.int .i64 32], .pointer (some ⟨b, 0, none⟩)] wr fun e w' => e = .returned (.tuple #[.agg (prF fDig s i).cs, .bool (okT fDig (prF fDig s i))]) ∧ At w' b s (i + 32) ∧ Only (fun j => j = b) wr w' := ttake_any 32 wr b s i hAk hEr hs hib
        rw [unhide HP2] at hC
        have HC := hide hC
        have hc' : wr.cell? ⟨fb, k, none⟩ = some (.iface 130 (.agg #[.int .i64 32])) := hc
        have HBF0 := hide (And.intro BR (And.intro BK (And.intro Bf hOk)))
        clear hC hib BR BK Bf hAk hOk hEr hc
        cases hok : okT fDig p2 with
        | true =>
          rw [hok] at HC
          go_wp2_with fail
          refine (unhide HC).mono ?_
          rintro e z ⟨rfl, hAz, hOz⟩
          obtain ⟨BR, BK, Bf, hOk⟩ := unhide HBF0
          obtain ⟨h, hh⟩ : ∃ h, z.heap.size = h := ⟨_, rfl⟩
          obtain ⟨y1, hy1⟩ : ∃ Z, z.alloc (.cells #[.int .i64 0, .string ⟨#[]⟩, .slice none 0 0] 103) = Z := ⟨_, rfl⟩
          have hzk := hOz.size
          have hgk : g + 1 < wr.heap.size := BK.lt
          have hfk : fb < wr.heap.size := Bf.lt
          have hfb : fb ≠ b := by
            intro e
            subst e
            obtain ⟨_, _, _, hAk, _, _⟩ := unhide HK
            have e1 := (show wr.heap[fb]? = _ from Bf).symm.trans (show wr.heap[fb]? = _ from hAk)
            injection e1 with e1
            injection e1 with _ e2 _
            exact absurd e2 (by decide)
          have hfg : fb ≠ g ∧ fb ≠ g + 1 := by
            constructor
            · intro e
              subst e
              have e1 := (show wr.heap[fb]? = _ from Bf).symm.trans (show wr.heap[fb]? = _ from BR)
              injection e1 with e1
              injection e1 with _ e2 _
              exact absurd e2 (by decide)
            · intro e
              subst e
              have e1 := (show wr.heap[g + 1]? = _ from Bf).symm.trans (show wr.heap[g + 1]? = _ from BK)
              injection e1 with e1
              injection e1 with _ e2 _
              exact absurd e2 (by decide)
          have HFG := hide hfg
          have hb1 : Below h z y1 := by rw [← hy1, ← hh]; exact (Below.refl _ z).alloc (Nat.le_refl _) _
          have BZ1 : Blk y1 h #[.int .i64 0, .string ⟨#[]⟩, .slice none 0 0] 103 := by rw [← hy1, ← hh]; exact Blk.new z _ _
          have HZ3 := hide BZ1
          have HO3 := hide (Prt.one p2)
          obtain ⟨y2, hy2⟩ : ∃ Z, y1.setRow h p2.cs = Z := ⟨_, rfl⟩
          have hd : Blk y2 g #[.int .i64 0, .int .i64 0, .int .i64 0, .int .i64 0, .int .i64 0, .int .i64 0, .string ⟨#[]⟩, .string ⟨#[]⟩, .string ⟨#[]⟩, .string ⟨#[]⟩] 29 ∧ Blk y2 (g + 1) rk.cs 29 ∧ Blk y2 fb (fs.map fv).toArray 101 ∧ At y2 b s (i + 32) ∧ Only (fun j => j = b) w y2 := by
            rw [← hy2]
            refine ⟨blk_setRow_other ((BR.only hOz (by omega)).below hb1 (by omega)) (by omega), blk_setRow_other ((BK.only hOz (by omega)).below hb1 (by omega)) (by omega), blk_setRow_other ((Bf.only hOz hfb).below hb1 (by omega)) (by omega), (hAz.below hb1 (by omega)).set (by omega), ?_⟩
            exact ((hOk.trans hOz (fun _ _ q => q)).trans (Only.of_below (P := fun _ => False) (by rw [hh]; exact hb1)) (fun _ _ q => q.elim)).trans (only_setRow (P := fun j => j = h) h _ rfl) (fun j hj q => by have := hOk.size; omega)
          have BP2 : Blk y2 h p2.cs 103 := by rw [← hy2]; exact blk_setRow BZ1
          have HRP := hide (show y2.rangeAt h 0 p2.cl from blk_range BP2)
          have HRG := hide (show y2.rangeAt (g + 1) 0 rk.cl from blk_range hd.2.1)
          have HD := hide hd
          clear BR BK Bf hOk hb1 BZ1 BP2 hd hAz hOz hfg hfb hzk
          obtain ⟨r2, hr2⟩ : ∃ Z, (exq fDig rk p2).1 = Z := ⟨_, rfl⟩
          obtain ⟨q2, hq2⟩ : ∃ Z, (exq fDig rk p2).2 = Z := ⟨_, rfl⟩
          have hEX := exq_any fDig (by simp [IsQ]) rk p2
          rw [hr2, hq2] at hEX
          have HEX := hide hEX
          have HT2 := hide (show takeQ fs (Req.bare kd) s 1 = takeQ (fs.drop (k + 1)) r2 s (i + 32) by
            have h := unhide HTQ
            rw [hok, if_pos rfl, hr2] at h
            exact h)
          have HI2 := hide (show i + 32 + szF (fs.drop (k + 1)) ≤ s.size by
            have h := unhide HISZ
            have e : (fDig).b = 32 := rfl
            rw [e] at h
            omega)
          have HO2 := hide (Req.one r2)
          clear hEX hr2 hq2 HISZ HTQ HC HK
          go_wp2_with (first | refine wpList_store_row rfl 103 (.tmp 9) (.tmp 24) rfl h p2.cs rfl rfl 103 #[.int .i64 0, .string ⟨#[]⟩, .slice none 0 0] (unhide HZ3) size_prt rfl (unhide HO3) ?_ | refine wpList_load_mid rfl 29 (.tmp 6) rfl (g + 1) 0 rfl rk.cl _ (unhide HRG) Tryz.underlying29 rfl size_req ?_ | refine wpList_load_mid rfl 103 (.tmp 9) rfl h 0 rfl p2.cl _ (unhide HRP) Tryz.underlying103 rfl size_prt ?_)
          refine (unhide HEX _).mono ?_
          rintro e x3 ⟨rfl, hx3⟩
          obtain ⟨D1, D2, D3, D4, D5⟩ := unhide HD
          have E2 := D2.below hx3 D2.lt
          have HZ4 := hide E2
          have HFIN := hide (show Blk (x3.setRow (g + 1) r2.cs) g #[.int .i64 0, .int .i64 0, .int .i64 0, .int .i64 0, .int .i64 0, .int .i64 0, .string ⟨#[]⟩, .string ⟨#[]⟩, .string ⟨#[]⟩, .string ⟨#[]⟩] 29 ∧ Blk (x3.setRow (g + 1) r2.cs) (g + 1) r2.cs 29 ∧ FR (x3.setRow (g + 1) r2.cs) (.slice (some ⟨fb, 0, none⟩) n n) fs ∧ At (x3.setRow (g + 1) r2.cs) b s (i + 32) ∧ Only (fun j => j = b) w (x3.setRow (g + 1) r2.cs) from
            ⟨blk_setRow_other (D1.below hx3 D1.lt) (by omega), blk_setRow E2, .inr ⟨fb, by rw [hlen], blk_setRow_other (D3.below hx3 D3.lt) (by have := unhide HFG; omega)⟩, (D4.below hx3 D4.lt).set (by omega), (D5.trans (Only.of_below (P := fun _ => False) hx3) (fun _ _ q => q.elim)).trans (only_setRow (P := fun j => j = g + 1) (g + 1) _ rfl) (fun j hj q => by omega)⟩)
          clear D1 D2 D3 D4 D5 E2 hx3 HD
          go_wp2_with (refine wpList_store_row rfl 29 (.tmp 6) (.tmp 34) rfl (g + 1) r2.cs rfl rfl 29 rk.cs (unhide HZ4) size_req rfl (unhide HO2) ?_)
          obtain ⟨F1, F2, F3, F4, F5⟩ := unhide HFIN
          exact ⟨⟨k + 1, r2, i + 32, by omega, rfl, unhide HT2, unhide HI2, F1, F2, F3, F4, F5⟩, by simp [intOf]; omega⟩
        | false =>
          rw [hok] at HC
          go_wp2_with fail
          refine (unhide HC).mono ?_
          rintro e z ⟨rfl, hAz, hOz⟩
          obtain ⟨BR, BK, Bf, hOk⟩ := unhide HBF0
          obtain ⟨h, hh⟩ : ∃ h, z.heap.size = h := ⟨_, rfl⟩
          obtain ⟨y1, hy1⟩ : ∃ Z, z.alloc (.cells #[.int .i64 0, .string ⟨#[]⟩, .slice none 0 0] 103) = Z := ⟨_, rfl⟩
          have hzk := hOz.size
          have hgk : g + 1 < wr.heap.size := BK.lt
          have hfk : fb < wr.heap.size := Bf.lt
          have hfb : fb ≠ b := by
            intro e
            subst e
            obtain ⟨_, _, _, hAk, _, _⟩ := unhide HK
            have e1 := (show wr.heap[fb]? = _ from Bf).symm.trans (show wr.heap[fb]? = _ from hAk)
            injection e1 with e1
            injection e1 with _ e2 _
            exact absurd e2 (by decide)
          have hfg : fb ≠ g ∧ fb ≠ g + 1 := by
            constructor
            · intro e
              subst e
              have e1 := (show wr.heap[fb]? = _ from Bf).symm.trans (show wr.heap[fb]? = _ from BR)
              injection e1 with e1
              injection e1 with _ e2 _
              exact absurd e2 (by decide)
            · intro e
              subst e
              have e1 := (show wr.heap[g + 1]? = _ from Bf).symm.trans (show wr.heap[g + 1]? = _ from BK)
              injection e1 with e1
              injection e1 with _ e2 _
              exact absurd e2 (by decide)
          have HFG := hide hfg
          have hb1 : Below h z y1 := by rw [← hy1, ← hh]; exact (Below.refl _ z).alloc (Nat.le_refl _) _
          have BZ1 : Blk y1 h #[.int .i64 0, .string ⟨#[]⟩, .slice none 0 0] 103 := by rw [← hy1, ← hh]; exact Blk.new z _ _
          have HZ3 := hide BZ1
          have HO3 := hide (Prt.one p2)
          obtain ⟨y2, hy2⟩ : ∃ Z, y1.setRow h p2.cs = Z := ⟨_, rfl⟩
          have hd : Blk y2 g #[.int .i64 0, .int .i64 0, .int .i64 0, .int .i64 0, .int .i64 0, .int .i64 0, .string ⟨#[]⟩, .string ⟨#[]⟩, .string ⟨#[]⟩, .string ⟨#[]⟩] 29 ∧ Blk y2 (g + 1) rk.cs 29 ∧ Blk y2 fb (fs.map fv).toArray 101 ∧ At y2 b s (i + 32) ∧ Only (fun j => j = b) w y2 := by
            rw [← hy2]
            refine ⟨blk_setRow_other ((BR.only hOz (by omega)).below hb1 (by omega)) (by omega), blk_setRow_other ((BK.only hOz (by omega)).below hb1 (by omega)) (by omega), blk_setRow_other ((Bf.only hOz hfb).below hb1 (by omega)) (by omega), (hAz.below hb1 (by omega)).set (by omega), ?_⟩
            exact ((hOk.trans hOz (fun _ _ q => q)).trans (Only.of_below (P := fun _ => False) (by rw [hh]; exact hb1)) (fun _ _ q => q.elim)).trans (only_setRow (P := fun j => j = h) h _ rfl) (fun j hj q => by have := hOk.size; omega)
          have BP2 : Blk y2 h p2.cs 103 := by rw [← hy2]; exact blk_setRow BZ1
          have HRP := hide (show y2.rangeAt h 0 p2.cl from blk_range BP2)
          have HRG := hide (show y2.rangeAt (g + 1) 0 rk.cl from blk_range hd.2.1)
          have HD := hide hd
          clear BR BK Bf hOk hb1 BZ1 BP2 hd hAz hOz hfg hfb hzk
          have HR1 := hide (show TR = Req.bare 0 ∧ TB = false by
            have h := unhide HTQ
            rw [hok, if_neg (by decide)] at h
            have h1 := unhide HTR
            have h2 := unhide HTB
            rw [h] at h1 h2
            exact ⟨h1, h2⟩)
          obtain ⟨D1, D2, D3, D4, D5⟩ := unhide HD
          have BT := blk_setRow (cells := (Req.bare 0).cs) D1
          have HL := hide (iload_blk 29 _ BT Tryz.underlying29 rfl size_req)
          have HZ5 := hide D1
          have HO5 := hide (Req.one (Req.bare 0))
          have HBN := hide built_none
          have HF2 := hide (show Only (fun j => j = b) w (y2.setRow g (Req.bare 0).cs) from D5.trans (only_setRow (P := fun j => j = g) g _ rfl) (fun j hj q => by omega))
          clear D1 D2 D3 D4 D5 BT HD HISZ HTQ HC HK
          go_wp2_with (first | refine wpList_store_row rfl 103 (.tmp 9) (.tmp 24) rfl h p2.cs rfl rfl 103 #[.int .i64 0, .string ⟨#[]⟩, .slice none 0 0] (unhide HZ3) size_prt rfl (unhide HO3) ?_ | refine wpList_buildAs rfl 29 #[] rfl _ rfl (Req.bare 0).cs (unhide HBN) ?_ | refine wpList_store_row rfl 29 (.tmp 4) (.tmp 28) rfl g (Req.bare 0).cs rfl rfl 29 #[.int .i64 0, .int .i64 0, .int .i64 0, .int .i64 0, .int .i64 0, .int .i64 0, .string ⟨#[]⟩, .string ⟨#[]⟩, .string ⟨#[]⟩, .string ⟨#[]⟩] (unhide HZ5) size_req rfl (unhide HO5) ?_)
          (try simp only [Exit.inBlock, Exit.then])
          refine bodyPost_ret (v := .tuple #[.agg (Req.bare 0).cs, .bool false]) (results_cell2 (p := 4) (q := 5) (ty := 29) rfl _ _ _ ⟨g, 0, none⟩ rfl _ (unhide HL)) rfl ?_
          exact ⟨by rw [(unhide HR1).1, (unhide HR1).2], unhide HF2⟩
      · obtain ⟨BR, BK, Bf, hAk, hOk, hEr⟩ := unhide HK
        have hib : i + 48 ≤ s.size := by have h := unhide HISZ; have e : (fWra).b = 48 := rfl; rw [e] at h; omega
        have hC : Calls Tryz.prog 136 #[.agg #[.int .i64 48], .pointer (some ⟨b, 0, none⟩)] wr fun e w' => e = .returned (.tuple #[.agg (prF fWra s i).cs, .bool (okT fWra (prF fWra s i))]) ∧ At w' b s (i + 48) ∧ Only (fun j => j = b) wr w' := ttake_any 48 wr b s i hAk hEr hs hib
        rw [unhide HP2] at hC
        have HC := hide hC
        have hc' : wr.cell? ⟨fb, k, none⟩ = some (.iface 131 (.agg #[.int .i64 48])) := hc
        have HBF0 := hide (And.intro BR (And.intro BK (And.intro Bf hOk)))
        clear hC hib BR BK Bf hAk hOk hEr hc
        cases hok : okT fWra p2 with
        | true =>
          rw [hok] at HC
          go_wp2_with fail
          refine (unhide HC).mono ?_
          rintro e z ⟨rfl, hAz, hOz⟩
          obtain ⟨BR, BK, Bf, hOk⟩ := unhide HBF0
          obtain ⟨h, hh⟩ : ∃ h, z.heap.size = h := ⟨_, rfl⟩
          obtain ⟨y1, hy1⟩ : ∃ Z, z.alloc (.cells #[.int .i64 0, .string ⟨#[]⟩, .slice none 0 0] 103) = Z := ⟨_, rfl⟩
          have hzk := hOz.size
          have hgk : g + 1 < wr.heap.size := BK.lt
          have hfk : fb < wr.heap.size := Bf.lt
          have hfb : fb ≠ b := by
            intro e
            subst e
            obtain ⟨_, _, _, hAk, _, _⟩ := unhide HK
            have e1 := (show wr.heap[fb]? = _ from Bf).symm.trans (show wr.heap[fb]? = _ from hAk)
            injection e1 with e1
            injection e1 with _ e2 _
            exact absurd e2 (by decide)
          have hfg : fb ≠ g ∧ fb ≠ g + 1 := by
            constructor
            · intro e
              subst e
              have e1 := (show wr.heap[fb]? = _ from Bf).symm.trans (show wr.heap[fb]? = _ from BR)
              injection e1 with e1
              injection e1 with _ e2 _
              exact absurd e2 (by decide)
            · intro e
              subst e
              have e1 := (show wr.heap[g + 1]? = _ from Bf).symm.trans (show wr.heap[g + 1]? = _ from BK)
              injection e1 with e1
              injection e1 with _ e2 _
              exact absurd e2 (by decide)
          have HFG := hide hfg
          have hb1 : Below h z y1 := by rw [← hy1, ← hh]; exact (Below.refl _ z).alloc (Nat.le_refl _) _
          have BZ1 : Blk y1 h #[.int .i64 0, .string ⟨#[]⟩, .slice none 0 0] 103 := by rw [← hy1, ← hh]; exact Blk.new z _ _
          have HZ3 := hide BZ1
          have HO3 := hide (Prt.one p2)
          obtain ⟨y2, hy2⟩ : ∃ Z, y1.setRow h p2.cs = Z := ⟨_, rfl⟩
          have hd : Blk y2 g #[.int .i64 0, .int .i64 0, .int .i64 0, .int .i64 0, .int .i64 0, .int .i64 0, .string ⟨#[]⟩, .string ⟨#[]⟩, .string ⟨#[]⟩, .string ⟨#[]⟩] 29 ∧ Blk y2 (g + 1) rk.cs 29 ∧ Blk y2 fb (fs.map fv).toArray 101 ∧ At y2 b s (i + 48) ∧ Only (fun j => j = b) w y2 := by
            rw [← hy2]
            refine ⟨blk_setRow_other ((BR.only hOz (by omega)).below hb1 (by omega)) (by omega), blk_setRow_other ((BK.only hOz (by omega)).below hb1 (by omega)) (by omega), blk_setRow_other ((Bf.only hOz hfb).below hb1 (by omega)) (by omega), (hAz.below hb1 (by omega)).set (by omega), ?_⟩
            exact ((hOk.trans hOz (fun _ _ q => q)).trans (Only.of_below (P := fun _ => False) (by rw [hh]; exact hb1)) (fun _ _ q => q.elim)).trans (only_setRow (P := fun j => j = h) h _ rfl) (fun j hj q => by have := hOk.size; omega)
          have BP2 : Blk y2 h p2.cs 103 := by rw [← hy2]; exact blk_setRow BZ1
          have HRP := hide (show y2.rangeAt h 0 p2.cl from blk_range BP2)
          have HRG := hide (show y2.rangeAt (g + 1) 0 rk.cl from blk_range hd.2.1)
          have HD := hide hd
          clear BR BK Bf hOk hb1 BZ1 BP2 hd hAz hOz hfg hfb hzk
          obtain ⟨r2, hr2⟩ : ∃ Z, (exq fWra rk p2).1 = Z := ⟨_, rfl⟩
          obtain ⟨q2, hq2⟩ : ∃ Z, (exq fWra rk p2).2 = Z := ⟨_, rfl⟩
          have hEX := exq_any fWra (by simp [IsQ]) rk p2
          rw [hr2, hq2] at hEX
          have HEX := hide hEX
          have HT2 := hide (show takeQ fs (Req.bare kd) s 1 = takeQ (fs.drop (k + 1)) r2 s (i + 48) by
            have h := unhide HTQ
            rw [hok, if_pos rfl, hr2] at h
            exact h)
          have HI2 := hide (show i + 48 + szF (fs.drop (k + 1)) ≤ s.size by
            have h := unhide HISZ
            have e : (fWra).b = 48 := rfl
            rw [e] at h
            omega)
          have HO2 := hide (Req.one r2)
          clear hEX hr2 hq2 HISZ HTQ HC HK
          go_wp2_with (first | refine wpList_store_row rfl 103 (.tmp 9) (.tmp 24) rfl h p2.cs rfl rfl 103 #[.int .i64 0, .string ⟨#[]⟩, .slice none 0 0] (unhide HZ3) size_prt rfl (unhide HO3) ?_ | refine wpList_load_mid rfl 29 (.tmp 6) rfl (g + 1) 0 rfl rk.cl _ (unhide HRG) Tryz.underlying29 rfl size_req ?_ | refine wpList_load_mid rfl 103 (.tmp 9) rfl h 0 rfl p2.cl _ (unhide HRP) Tryz.underlying103 rfl size_prt ?_)
          refine (unhide HEX _).mono ?_
          rintro e x3 ⟨rfl, hx3⟩
          obtain ⟨D1, D2, D3, D4, D5⟩ := unhide HD
          have E2 := D2.below hx3 D2.lt
          have HZ4 := hide E2
          have HFIN := hide (show Blk (x3.setRow (g + 1) r2.cs) g #[.int .i64 0, .int .i64 0, .int .i64 0, .int .i64 0, .int .i64 0, .int .i64 0, .string ⟨#[]⟩, .string ⟨#[]⟩, .string ⟨#[]⟩, .string ⟨#[]⟩] 29 ∧ Blk (x3.setRow (g + 1) r2.cs) (g + 1) r2.cs 29 ∧ FR (x3.setRow (g + 1) r2.cs) (.slice (some ⟨fb, 0, none⟩) n n) fs ∧ At (x3.setRow (g + 1) r2.cs) b s (i + 48) ∧ Only (fun j => j = b) w (x3.setRow (g + 1) r2.cs) from
            ⟨blk_setRow_other (D1.below hx3 D1.lt) (by omega), blk_setRow E2, .inr ⟨fb, by rw [hlen], blk_setRow_other (D3.below hx3 D3.lt) (by have := unhide HFG; omega)⟩, (D4.below hx3 D4.lt).set (by omega), (D5.trans (Only.of_below (P := fun _ => False) hx3) (fun _ _ q => q.elim)).trans (only_setRow (P := fun j => j = g + 1) (g + 1) _ rfl) (fun j hj q => by omega)⟩)
          clear D1 D2 D3 D4 D5 E2 hx3 HD
          go_wp2_with (refine wpList_store_row rfl 29 (.tmp 6) (.tmp 34) rfl (g + 1) r2.cs rfl rfl 29 rk.cs (unhide HZ4) size_req rfl (unhide HO2) ?_)
          obtain ⟨F1, F2, F3, F4, F5⟩ := unhide HFIN
          exact ⟨⟨k + 1, r2, i + 48, by omega, rfl, unhide HT2, unhide HI2, F1, F2, F3, F4, F5⟩, by simp [intOf]; omega⟩
        | false =>
          rw [hok] at HC
          go_wp2_with fail
          refine (unhide HC).mono ?_
          rintro e z ⟨rfl, hAz, hOz⟩
          obtain ⟨BR, BK, Bf, hOk⟩ := unhide HBF0
          obtain ⟨h, hh⟩ : ∃ h, z.heap.size = h := ⟨_, rfl⟩
          obtain ⟨y1, hy1⟩ : ∃ Z, z.alloc (.cells #[.int .i64 0, .string ⟨#[]⟩, .slice none 0 0] 103) = Z := ⟨_, rfl⟩
          have hzk := hOz.size
          have hgk : g + 1 < wr.heap.size := BK.lt
          have hfk : fb < wr.heap.size := Bf.lt
          have hfb : fb ≠ b := by
            intro e
            subst e
            obtain ⟨_, _, _, hAk, _, _⟩ := unhide HK
            have e1 := (show wr.heap[fb]? = _ from Bf).symm.trans (show wr.heap[fb]? = _ from hAk)
            injection e1 with e1
            injection e1 with _ e2 _
            exact absurd e2 (by decide)
          have hfg : fb ≠ g ∧ fb ≠ g + 1 := by
            constructor
            · intro e
              subst e
              have e1 := (show wr.heap[fb]? = _ from Bf).symm.trans (show wr.heap[fb]? = _ from BR)
              injection e1 with e1
              injection e1 with _ e2 _
              exact absurd e2 (by decide)
            · intro e
              subst e
              have e1 := (show wr.heap[g + 1]? = _ from Bf).symm.trans (show wr.heap[g + 1]? = _ from BK)
              injection e1 with e1
              injection e1 with _ e2 _
              exact absurd e2 (by decide)
          have HFG := hide hfg
          have hb1 : Below h z y1 := by rw [← hy1, ← hh]; exact (Below.refl _ z).alloc (Nat.le_refl _) _
          have BZ1 : Blk y1 h #[.int .i64 0, .string ⟨#[]⟩, .slice none 0 0] 103 := by rw [← hy1, ← hh]; exact Blk.new z _ _
          have HZ3 := hide BZ1
          have HO3 := hide (Prt.one p2)
          obtain ⟨y2, hy2⟩ : ∃ Z, y1.setRow h p2.cs = Z := ⟨_, rfl⟩
          have hd : Blk y2 g #[.int .i64 0, .int .i64 0, .int .i64 0, .int .i64 0, .int .i64 0, .int .i64 0, .string ⟨#[]⟩, .string ⟨#[]⟩, .string ⟨#[]⟩, .string ⟨#[]⟩] 29 ∧ Blk y2 (g + 1) rk.cs 29 ∧ Blk y2 fb (fs.map fv).toArray 101 ∧ At y2 b s (i + 48) ∧ Only (fun j => j = b) w y2 := by
            rw [← hy2]
            refine ⟨blk_setRow_other ((BR.only hOz (by omega)).below hb1 (by omega)) (by omega), blk_setRow_other ((BK.only hOz (by omega)).below hb1 (by omega)) (by omega), blk_setRow_other ((Bf.only hOz hfb).below hb1 (by omega)) (by omega), (hAz.below hb1 (by omega)).set (by omega), ?_⟩
            exact ((hOk.trans hOz (fun _ _ q => q)).trans (Only.of_below (P := fun _ => False) (by rw [hh]; exact hb1)) (fun _ _ q => q.elim)).trans (only_setRow (P := fun j => j = h) h _ rfl) (fun j hj q => by have := hOk.size; omega)
          have BP2 : Blk y2 h p2.cs 103 := by rw [← hy2]; exact blk_setRow BZ1
          have HRP := hide (show y2.rangeAt h 0 p2.cl from blk_range BP2)
          have HRG := hide (show y2.rangeAt (g + 1) 0 rk.cl from blk_range hd.2.1)
          have HD := hide hd
          clear BR BK Bf hOk hb1 BZ1 BP2 hd hAz hOz hfg hfb hzk
          have HR1 := hide (show TR = Req.bare 0 ∧ TB = false by
            have h := unhide HTQ
            rw [hok, if_neg (by decide)] at h
            have h1 := unhide HTR
            have h2 := unhide HTB
            rw [h] at h1 h2
            exact ⟨h1, h2⟩)
          obtain ⟨D1, D2, D3, D4, D5⟩ := unhide HD
          have BT := blk_setRow (cells := (Req.bare 0).cs) D1
          have HL := hide (iload_blk 29 _ BT Tryz.underlying29 rfl size_req)
          have HZ5 := hide D1
          have HO5 := hide (Req.one (Req.bare 0))
          have HBN := hide built_none
          have HF2 := hide (show Only (fun j => j = b) w (y2.setRow g (Req.bare 0).cs) from D5.trans (only_setRow (P := fun j => j = g) g _ rfl) (fun j hj q => by omega))
          clear D1 D2 D3 D4 D5 BT HD HISZ HTQ HC HK
          go_wp2_with (first | refine wpList_store_row rfl 103 (.tmp 9) (.tmp 24) rfl h p2.cs rfl rfl 103 #[.int .i64 0, .string ⟨#[]⟩, .slice none 0 0] (unhide HZ3) size_prt rfl (unhide HO3) ?_ | refine wpList_buildAs rfl 29 #[] rfl _ rfl (Req.bare 0).cs (unhide HBN) ?_ | refine wpList_store_row rfl 29 (.tmp 4) (.tmp 28) rfl g (Req.bare 0).cs rfl rfl 29 #[.int .i64 0, .int .i64 0, .int .i64 0, .int .i64 0, .int .i64 0, .int .i64 0, .string ⟨#[]⟩, .string ⟨#[]⟩, .string ⟨#[]⟩, .string ⟨#[]⟩] (unhide HZ5) size_req rfl (unhide HO5) ?_)
          (try simp only [Exit.inBlock, Exit.then])
          refine bodyPost_ret (v := .tuple #[.agg (Req.bare 0).cs, .bool false]) (results_cell2 (p := 4) (q := 5) (ty := 29) rfl _ _ _ ⟨g, 0, none⟩ rfl _ (unhide HL)) rfl ?_
          exact ⟨by rw [(unhide HR1).1, (unhide HR1).2], unhide HF2⟩
      · obtain ⟨BR, BK, Bf, hAk, hOk, hEr⟩ := unhide HK
        have hib : i + 8 ≤ s.size := by have h := unhide HISZ; have e : (fSam).b = 8 := rfl; rw [e] at h; omega
        have hC : Calls Tryz.prog 136 #[.agg #[.int .i64 8], .pointer (some ⟨b, 0, none⟩)] wr fun e w' => e = .returned (.tuple #[.agg (prF fSam s i).cs, .bool (okT fSam (prF fSam s i))]) ∧ At w' b s (i + 8) ∧ Only (fun j => j = b) wr w' := ttake_any 8 wr b s i hAk hEr hs hib
        rw [unhide HP2] at hC
        have HC := hide hC
        have hc' : wr.cell? ⟨fb, k, none⟩ = some (.iface 132 (.agg #[.int .i64 8])) := hc
        have HBF0 := hide (And.intro BR (And.intro BK (And.intro Bf hOk)))
        clear hC hib BR BK Bf hAk hOk hEr hc
        cases hok : okT fSam p2 with
        | true =>
          rw [hok] at HC
          go_wp2_with fail
          refine (unhide HC).mono ?_
          rintro e z ⟨rfl, hAz, hOz⟩
          obtain ⟨BR, BK, Bf, hOk⟩ := unhide HBF0
          obtain ⟨h, hh⟩ : ∃ h, z.heap.size = h := ⟨_, rfl⟩
          obtain ⟨y1, hy1⟩ : ∃ Z, z.alloc (.cells #[.int .i64 0, .string ⟨#[]⟩, .slice none 0 0] 103) = Z := ⟨_, rfl⟩
          have hzk := hOz.size
          have hgk : g + 1 < wr.heap.size := BK.lt
          have hfk : fb < wr.heap.size := Bf.lt
          have hfb : fb ≠ b := by
            intro e
            subst e
            obtain ⟨_, _, _, hAk, _, _⟩ := unhide HK
            have e1 := (show wr.heap[fb]? = _ from Bf).symm.trans (show wr.heap[fb]? = _ from hAk)
            injection e1 with e1
            injection e1 with _ e2 _
            exact absurd e2 (by decide)
          have hfg : fb ≠ g ∧ fb ≠ g + 1 := by
            constructor
            · intro e
              subst e
              have e1 := (show wr.heap[fb]? = _ from Bf).symm.trans (show wr.heap[fb]? = _ from BR)
              injection e1 with e1
              injection e1 with _ e2 _
              exact absurd e2 (by decide)
            · intro e
              subst e
              have e1 := (show wr.heap[g + 1]? = _ from Bf).symm.trans (show wr.heap[g + 1]? = _ from BK)
              injection e1 with e1
              injection e1 with _ e2 _
              exact absurd e2 (by decide)
          have HFG := hide hfg
          have hb1 : Below h z y1 := by rw [← hy1, ← hh]; exact (Below.refl _ z).alloc (Nat.le_refl _) _
          have BZ1 : Blk y1 h #[.int .i64 0, .string ⟨#[]⟩, .slice none 0 0] 103 := by rw [← hy1, ← hh]; exact Blk.new z _ _
          have HZ3 := hide BZ1
          have HO3 := hide (Prt.one p2)
          obtain ⟨y2, hy2⟩ : ∃ Z, y1.setRow h p2.cs = Z := ⟨_, rfl⟩
          have hd : Blk y2 g #[.int .i64 0, .int .i64 0, .int .i64 0, .int .i64 0, .int .i64 0, .int .i64 0, .string ⟨#[]⟩, .string ⟨#[]⟩, .string ⟨#[]⟩, .string ⟨#[]⟩] 29 ∧ Blk y2 (g + 1) rk.cs 29 ∧ Blk y2 fb (fs.map fv).toArray 101 ∧ At y2 b s (i + 8) ∧ Only (fun j => j = b) w y2 := by
            rw [← hy2]
            refine ⟨blk_setRow_other ((BR.only hOz (by omega)).below hb1 (by omega)) (by omega), blk_setRow_other ((BK.only hOz (by omega)).below hb1 (by omega)) (by omega), blk_setRow_other ((Bf.only hOz hfb).below hb1 (by omega)) (by omega), (hAz.below hb1 (by omega)).set (by omega), ?_⟩
            exact ((hOk.trans hOz (fun _ _ q => q)).trans (Only.of_below (P := fun _ => False) (by rw [hh]; exact hb1)) (fun _ _ q => q.elim)).trans (only_setRow (P := fun j => j = h) h _ rfl) (fun j hj q => by have := hOk.size; omega)
          have BP2 : Blk y2 h p2.cs 103 := by rw [← hy2]; exact blk_setRow BZ1
          have HRP := hide (show y2.rangeAt h 0 p2.cl from blk_range BP2)
          have HRG := hide (show y2.rangeAt (g + 1) 0 rk.cl from blk_range hd.2.1)
          have HD := hide hd
          clear BR BK Bf hOk hb1 BZ1 BP2 hd hAz hOz hfg hfb hzk
          obtain ⟨r2, hr2⟩ : ∃ Z, (exq fSam rk p2).1 = Z := ⟨_, rfl⟩
          obtain ⟨q2, hq2⟩ : ∃ Z, (exq fSam rk p2).2 = Z := ⟨_, rfl⟩
          have hEX := exq_any fSam (by simp [IsQ]) rk p2
          rw [hr2, hq2] at hEX
          have HEX := hide hEX
          have HT2 := hide (show takeQ fs (Req.bare kd) s 1 = takeQ (fs.drop (k + 1)) r2 s (i + 8) by
            have h := unhide HTQ
            rw [hok, if_pos rfl, hr2] at h
            exact h)
          have HI2 := hide (show i + 8 + szF (fs.drop (k + 1)) ≤ s.size by
            have h := unhide HISZ
            have e : (fSam).b = 8 := rfl
            rw [e] at h
            omega)
          have HO2 := hide (Req.one r2)
          clear hEX hr2 hq2 HISZ HTQ HC HK
          go_wp2_with (first | refine wpList_store_row rfl 103 (.tmp 9) (.tmp 24) rfl h p2.cs rfl rfl 103 #[.int .i64 0, .string ⟨#[]⟩, .slice none 0 0] (unhide HZ3) size_prt rfl (unhide HO3) ?_ | refine wpList_load_mid rfl 29 (.tmp 6) rfl (g + 1) 0 rfl rk.cl _ (unhide HRG) Tryz.underlying29 rfl size_req ?_ | refine wpList_load_mid rfl 103 (.tmp 9) rfl h 0 rfl p2.cl _ (unhide HRP) Tryz.underlying103 rfl size_prt ?_)
          refine (unhide HEX _).mono ?_
          rintro e x3 ⟨rfl, hx3⟩
          obtain ⟨D1, D2, D3, D4, D5⟩ := unhide HD
          have E2 := D2.below hx3 D2.lt
          have HZ4 := hide E2
          have HFIN := hide (show Blk (x3.setRow (g + 1) r2.cs) g #[.int .i64 0, .int .i64 0, .int .i64 0, .int .i64 0, .int .i64 0, .int .i64 0, .string ⟨#[]⟩, .string ⟨#[]⟩, .string ⟨#[]⟩, .string ⟨#[]⟩] 29 ∧ Blk (x3.setRow (g + 1) r2.cs) (g + 1) r2.cs 29 ∧ FR (x3.setRow (g + 1) r2.cs) (.slice (some ⟨fb, 0, none⟩) n n) fs ∧ At (x3.setRow (g + 1) r2.cs) b s (i + 8) ∧ Only (fun j => j = b) w (x3.setRow (g + 1) r2.cs) from
            ⟨blk_setRow_other (D1.below hx3 D1.lt) (by omega), blk_setRow E2, .inr ⟨fb, by rw [hlen], blk_setRow_other (D3.below hx3 D3.lt) (by have := unhide HFG; omega)⟩, (D4.below hx3 D4.lt).set (by omega), (D5.trans (Only.of_below (P := fun _ => False) hx3) (fun _ _ q => q.elim)).trans (only_setRow (P := fun j => j = g + 1) (g + 1) _ rfl) (fun j hj q => by omega)⟩)
          clear D1 D2 D3 D4 D5 E2 hx3 HD
          go_wp2_with (refine wpList_store_row rfl 29 (.tmp 6) (.tmp 34) rfl (g + 1) r2.cs rfl rfl 29 rk.cs (unhide HZ4) size_req rfl (unhide HO2) ?_)
          obtain ⟨F1, F2, F3, F4, F5⟩ := unhide HFIN
          exact ⟨⟨k + 1, r2, i + 8, by omega, rfl, unhide HT2, unhide HI2, F1, F2, F3, F4, F5⟩, by simp [intOf]; omega⟩
        | false =>
          rw [hok] at HC
          go_wp2_with fail
          refine (unhide HC).mono ?_
          rintro e z ⟨rfl, hAz, hOz⟩
          obtain ⟨BR, BK, Bf, hOk⟩ := unhide HBF0
          obtain ⟨h, hh⟩ : ∃ h, z.heap.size = h := ⟨_, rfl⟩
          obtain ⟨y1, hy1⟩ : ∃ Z, z.alloc (.cells #[.int .i64 0, .string ⟨#[]⟩, .slice none 0 0] 103) = Z := ⟨_, rfl⟩
          have hzk := hOz.size
          have hgk : g + 1 < wr.heap.size := BK.lt
          have hfk : fb < wr.heap.size := Bf.lt
          have hfb : fb ≠ b := by
            intro e
            subst e
            obtain ⟨_, _, _, hAk, _, _⟩ := unhide HK
            have e1 := (show wr.heap[fb]? = _ from Bf).symm.trans (show wr.heap[fb]? = _ from hAk)
            injection e1 with e1
            injection e1 with _ e2 _
            exact absurd e2 (by decide)
          have hfg : fb ≠ g ∧ fb ≠ g + 1 := by
            constructor
            · intro e
              subst e
              have e1 := (show wr.heap[fb]? = _ from Bf).symm.trans (show wr.heap[fb]? = _ from BR)
              injection e1 with e1
              injection e1 with _ e2 _
              exact absurd e2 (by decide)
            · intro e
              subst e
              have e1 := (show wr.heap[g + 1]? = _ from Bf).symm.trans (show wr.heap[g + 1]? = _ from BK)
              injection e1 with e1
              injection e1 with _ e2 _
              exact absurd e2 (by decide)
          have HFG := hide hfg
          have hb1 : Below h z y1 := by rw [← hy1, ← hh]; exact (Below.refl _ z).alloc (Nat.le_refl _) _
          have BZ1 : Blk y1 h #[.int .i64 0, .string ⟨#[]⟩, .slice none 0 0] 103 := by rw [← hy1, ← hh]; exact Blk.new z _ _
          have HZ3 := hide BZ1
          have HO3 := hide (Prt.one p2)
          obtain ⟨y2, hy2⟩ : ∃ Z, y1.setRow h p2.cs = Z := ⟨_, rfl⟩
          have hd : Blk y2 g #[.int .i64 0, .int .i64 0, .int .i64 0, .int .i64 0, .int .i64 0, .int .i64 0, .string ⟨#[]⟩, .string ⟨#[]⟩, .string ⟨#[]⟩, .string ⟨#[]⟩] 29 ∧ Blk y2 (g + 1) rk.cs 29 ∧ Blk y2 fb (fs.map fv).toArray 101 ∧ At y2 b s (i + 8) ∧ Only (fun j => j = b) w y2 := by
            rw [← hy2]
            refine ⟨blk_setRow_other ((BR.only hOz (by omega)).below hb1 (by omega)) (by omega), blk_setRow_other ((BK.only hOz (by omega)).below hb1 (by omega)) (by omega), blk_setRow_other ((Bf.only hOz hfb).below hb1 (by omega)) (by omega), (hAz.below hb1 (by omega)).set (by omega), ?_⟩
            exact ((hOk.trans hOz (fun _ _ q => q)).trans (Only.of_below (P := fun _ => False) (by rw [hh]; exact hb1)) (fun _ _ q => q.elim)).trans (only_setRow (P := fun j => j = h) h _ rfl) (fun j hj q => by have := hOk.size; omega)
          have BP2 : Blk y2 h p2.cs 103 := by rw [← hy2]; exact blk_setRow BZ1
          have HRP := hide (show y2.rangeAt h 0 p2.cl from blk_range BP2)
          have HRG := hide (show y2.rangeAt (g + 1) 0 rk.cl from blk_range hd.2.1)
          have HD := hide hd
          clear BR BK Bf hOk hb1 BZ1 BP2 hd hAz hOz hfg hfb hzk
          have HR1 := hide (show TR = Req.bare 0 ∧ TB = false by
            have h := unhide HTQ
            rw [hok, if_neg (by decide)] at h
            have h1 := unhide HTR
            have h2 := unhide HTB
            rw [h] at h1 h2
            exact ⟨h1, h2⟩)
          obtain ⟨D1, D2, D3, D4, D5⟩ := unhide HD
          have BT := blk_setRow (cells := (Req.bare 0).cs) D1
          have HL := hide (iload_blk 29 _ BT Tryz.underlying29 rfl size_req)
          have HZ5 := hide D1
          have HO5 := hide (Req.one (Req.bare 0))
          have HBN := hide built_none
          have HF2 := hide (show Only (fun j => j = b) w (y2.setRow g (Req.bare 0).cs) from D5.trans (only_setRow (P := fun j => j = g) g _ rfl) (fun j hj q => by omega))
          clear D1 D2 D3 D4 D5 BT HD HISZ HTQ HC HK
          go_wp2_with (first | refine wpList_store_row rfl 103 (.tmp 9) (.tmp 24) rfl h p2.cs rfl rfl 103 #[.int .i64 0, .string ⟨#[]⟩, .slice none 0 0] (unhide HZ3) size_prt rfl (unhide HO3) ?_ | refine wpList_buildAs rfl 29 #[] rfl _ rfl (Req.bare 0).cs (unhide HBN) ?_ | refine wpList_store_row rfl 29 (.tmp 4) (.tmp 28) rfl g (Req.bare 0).cs rfl rfl 29 #[.int .i64 0, .int .i64 0, .int .i64 0, .int .i64 0, .int .i64 0, .int .i64 0, .string ⟨#[]⟩, .string ⟨#[]⟩, .string ⟨#[]⟩, .string ⟨#[]⟩] (unhide HZ5) size_req rfl (unhide HO5) ?_)
          (try simp only [Exit.inBlock, Exit.then])
          refine bodyPost_ret (v := .tuple #[.agg (Req.bare 0).cs, .bool false]) (results_cell2 (p := 4) (q := 5) (ty := 29) rfl _ _ _ ⟨g, 0, none⟩ rfl _ (unhide HL)) rfl ?_
          exact ⟨by rw [(unhide HR1).1, (unhide HR1).2], unhide HF2⟩
      · obtain ⟨BR, BK, Bf, hAk, hOk, hEr⟩ := unhide HK
        have hib : i + 256 ≤ s.size := by have h := unhide HISZ; have e : (fDat).b = 256 := rfl; rw [e] at h; omega
        have hC : Calls Tryz.prog 136 #[.agg #[.int .i64 256], .pointer (some ⟨b, 0, none⟩)] wr fun e w' => e = .returned (.tuple #[.agg (prF fDat s i).cs, .bool (okT fDat (prF fDat s i))]) ∧ At w' b s (i + 256) ∧ Only (fun j => j = b) wr w' := ttake_any 256 wr b s i hAk hEr hs hib
        rw [unhide HP2] at hC
        have HC := hide hC
        have hc' : wr.cell? ⟨fb, k, none⟩ = some (.iface 133 (.agg #[.int .i64 256])) := hc
        have HBF0 := hide (And.intro BR (And.intro BK (And.intro Bf hOk)))
        clear hC hib BR BK Bf hAk hOk hEr hc
        cases hok : okT fDat p2 with
        | true =>
          rw [hok] at HC
          go_wp2_with fail
          refine (unhide HC).mono ?_
          rintro e z ⟨rfl, hAz, hOz⟩
          obtain ⟨BR, BK, Bf, hOk⟩ := unhide HBF0
          obtain ⟨h, hh⟩ : ∃ h, z.heap.size = h := ⟨_, rfl⟩
          obtain ⟨y1, hy1⟩ : ∃ Z, z.alloc (.cells #[.int .i64 0, .string ⟨#[]⟩, .slice none 0 0] 103) = Z := ⟨_, rfl⟩
          have hzk := hOz.size
          have hgk : g + 1 < wr.heap.size := BK.lt
          have hfk : fb < wr.heap.size := Bf.lt
          have hfb : fb ≠ b := by
            intro e
            subst e
            obtain ⟨_, _, _, hAk, _, _⟩ := unhide HK
            have e1 := (show wr.heap[fb]? = _ from Bf).symm.trans (show wr.heap[fb]? = _ from hAk)
            injection e1 with e1
            injection e1 with _ e2 _
            exact absurd e2 (by decide)
          have hfg : fb ≠ g ∧ fb ≠ g + 1 := by
            constructor
            · intro e
              subst e
              have e1 := (show wr.heap[fb]? = _ from Bf).symm.trans (show wr.heap[fb]? = _ from BR)
              injection e1 with e1
              injection e1 with _ e2 _
              exact absurd e2 (by decide)
            · intro e
              subst e
              have e1 := (show wr.heap[g + 1]? = _ from Bf).symm.trans (show wr.heap[g + 1]? = _ from BK)
              injection e1 with e1
              injection e1 with _ e2 _
              exact absurd e2 (by decide)
          have HFG := hide hfg
          have hb1 : Below h z y1 := by rw [← hy1, ← hh]; exact (Below.refl _ z).alloc (Nat.le_refl _) _
          have BZ1 : Blk y1 h #[.int .i64 0, .string ⟨#[]⟩, .slice none 0 0] 103 := by rw [← hy1, ← hh]; exact Blk.new z _ _
          have HZ3 := hide BZ1
          have HO3 := hide (Prt.one p2)
          obtain ⟨y2, hy2⟩ : ∃ Z, y1.setRow h p2.cs = Z := ⟨_, rfl⟩
          have hd : Blk y2 g #[.int .i64 0, .int .i64 0, .int .i64 0, .int .i64 0, .int .i64 0, .int .i64 0, .string ⟨#[]⟩, .string ⟨#[]⟩, .string ⟨#[]⟩, .string ⟨#[]⟩] 29 ∧ Blk y2 (g + 1) rk.cs 29 ∧ Blk y2 fb (fs.map fv).toArray 101 ∧ At y2 b s (i + 256) ∧ Only (fun j => j = b) w y2 := by
            rw [← hy2]
            refine ⟨blk_setRow_other ((BR.only hOz (by omega)).below hb1 (by omega)) (by omega), blk_setRow_other ((BK.only hOz (by omega)).below hb1 (by omega)) (by omega), blk_setRow_other ((Bf.only hOz hfb).below hb1 (by omega)) (by omega), (hAz.below hb1 (by omega)).set (by omega), ?_⟩
            exact ((hOk.trans hOz (fun _ _ q => q)).trans (Only.of_below (P := fun _ => False) (by rw [hh]; exact hb1)) (fun _ _ q => q.elim)).trans (only_setRow (P := fun j => j = h) h _ rfl) (fun j hj q => by have := hOk.size; omega)
          have BP2 : Blk y2 h p2.cs 103 := by rw [← hy2]; exact blk_setRow BZ1
          have HRP := hide (show y2.rangeAt h 0 p2.cl from blk_range BP2)
          have HRG := hide (show y2.rangeAt (g + 1) 0 rk.cl from blk_range hd.2.1)
          have HD := hide hd
          clear BR BK Bf hOk hb1 BZ1 BP2 hd hAz hOz hfg hfb hzk
          obtain ⟨r2, hr2⟩ : ∃ Z, (exq fDat rk p2).1 = Z := ⟨_, rfl⟩
          obtain ⟨q2, hq2⟩ : ∃ Z, (exq fDat rk p2).2 = Z := ⟨_, rfl⟩
          have hEX := exq_any fDat (by simp [IsQ]) rk p2
          rw [hr2, hq2] at hEX
          have HEX := hide hEX
          have HT2 := hide (show takeQ fs (Req.bare kd) s 1 = takeQ (fs.drop (k + 1)) r2 s (i + 256) by
            have h := unhide HTQ
            rw [hok, if_pos rfl, hr2] at h
            exact h)
          have HI2 := hide (show i + 256 + szF (fs.drop (k + 1)) ≤ s.size by
            have h := unhide HISZ
            have e : (fDat).b = 256 := rfl
            rw [e] at h
            omega)
          have HO2 := hide (Req.one r2)
          clear hEX hr2 hq2 HISZ HTQ HC HK
          go_wp2_with (first | refine wpList_store_row rfl 103 (.tmp 9) (.tmp 24) rfl h p2.cs rfl rfl 103 #[.int .i64 0, .string ⟨#[]⟩, .slice none 0 0] (unhide HZ3) size_prt rfl (unhide HO3) ?_ | refine wpList_load_mid rfl 29 (.tmp 6) rfl (g + 1) 0 rfl rk.cl _ (unhide HRG) Tryz.underlying29 rfl size_req ?_ | refine wpList_load_mid rfl 103 (.tmp 9) rfl h 0 rfl p2.cl _ (unhide HRP) Tryz.underlying103 rfl size_prt ?_)
          refine (unhide HEX _).mono ?_
          rintro e x3 ⟨rfl, hx3⟩
          obtain ⟨D1, D2, D3, D4, D5⟩ := unhide HD
          have E2 := D2.below hx3 D2.lt
          have HZ4 := hide E2
          have HFIN := hide (show Blk (x3.setRow (g + 1) r2.cs) g #[.int .i64 0, .int .i64 0, .int .i64 0, .int .i64 0, .int .i64 0, .int .i64 0, .string ⟨#[]⟩, .string ⟨#[]⟩, .string ⟨#[]⟩, .string ⟨#[]⟩] 29 ∧ Blk (x3.setRow (g + 1) r2.cs) (g + 1) r2.cs 29 ∧ FR (x3.setRow (g + 1) r2.cs) (.slice (some ⟨fb, 0, none⟩) n n) fs ∧ At (x3.setRow (g + 1) r2.cs) b s (i + 256) ∧ Only (fun j => j = b) w (x3.setRow (g + 1) r2.cs) from
            ⟨blk_setRow_other (D1.below hx3 D1.lt) (by omega), blk_setRow E2, .inr ⟨fb, by rw [hlen], blk_setRow_other (D3.below hx3 D3.lt) (by have := unhide HFG; omega)⟩, (D4.below hx3 D4.lt).set (by omega), (D5.trans (Only.of_below (P := fun _ => False) hx3) (fun _ _ q => q.elim)).trans (only_setRow (P := fun j => j = g + 1) (g + 1) _ rfl) (fun j hj q => by omega)⟩)
          clear D1 D2 D3 D4 D5 E2 hx3 HD
          go_wp2_with (refine wpList_store_row rfl 29 (.tmp 6) (.tmp 34) rfl (g + 1) r2.cs rfl rfl 29 rk.cs (unhide HZ4) size_req rfl (unhide HO2) ?_)
          obtain ⟨F1, F2, F3, F4, F5⟩ := unhide HFIN
          exact ⟨⟨k + 1, r2, i + 256, by omega, rfl, unhide HT2, unhide HI2, F1, F2, F3, F4, F5⟩, by simp [intOf]; omega⟩
        | false =>
          rw [hok] at HC
          go_wp2_with fail
          refine (unhide HC).mono ?_
          rintro e z ⟨rfl, hAz, hOz⟩
          obtain ⟨BR, BK, Bf, hOk⟩ := unhide HBF0
          obtain ⟨h, hh⟩ : ∃ h, z.heap.size = h := ⟨_, rfl⟩
          obtain ⟨y1, hy1⟩ : ∃ Z, z.alloc (.cells #[.int .i64 0, .string ⟨#[]⟩, .slice none 0 0] 103) = Z := ⟨_, rfl⟩
          have hzk := hOz.size
          have hgk : g + 1 < wr.heap.size := BK.lt
          have hfk : fb < wr.heap.size := Bf.lt
          have hfb : fb ≠ b := by
            intro e
            subst e
            obtain ⟨_, _, _, hAk, _, _⟩ := unhide HK
            have e1 := (show wr.heap[fb]? = _ from Bf).symm.trans (show wr.heap[fb]? = _ from hAk)
            injection e1 with e1
            injection e1 with _ e2 _
            exact absurd e2 (by decide)
          have hfg : fb ≠ g ∧ fb ≠ g + 1 := by
            constructor
            · intro e
              subst e
              have e1 := (show wr.heap[fb]? = _ from Bf).symm.trans (show wr.heap[fb]? = _ from BR)
              injection e1 with e1
              injection e1 with _ e2 _
              exact absurd e2 (by decide)
            · intro e
              subst e
              have e1 := (show wr.heap[g + 1]? = _ from Bf).symm.trans (show wr.heap[g + 1]? = _ from BK)
              injection e1 with e1
              injection e1 with _ e2 _
              exact absurd e2 (by decide)
          have HFG := hide hfg
          have hb1 : Below h z y1 := by rw [← hy1, ← hh]; exact (Below.refl _ z).alloc (Nat.le_refl _) _
          have BZ1 : Blk y1 h #[.int .i64 0, .string ⟨#[]⟩, .slice none 0 0] 103 := by rw [← hy1, ← hh]; exact Blk.new z _ _
          have HZ3 := hide BZ1
          have HO3 := hide (Prt.one p2)
          obtain ⟨y2, hy2⟩ : ∃ Z, y1.setRow h p2.cs = Z := ⟨_, rfl⟩
          have hd : Blk y2 g #[.int .i64 0, .int .i64 0, .int .i64 0, .int .i64 0, .int .i64 0, .int .i64 0, .string ⟨#[]⟩, .string ⟨#[]⟩, .string ⟨#[]⟩, .string ⟨#[]⟩] 29 ∧ Blk y2 (g + 1) rk.cs 29 ∧ Blk y2 fb (fs.map fv).toArray 101 ∧ At y2 b s (i + 256) ∧ Only (fun j => j = b) w y2 := by
            rw [← hy2]
            refine ⟨blk_setRow_other ((BR.only hOz (by omega)).below hb1 (by omega)) (by omega), blk_setRow_other ((BK.only hOz (by omega)).below hb1 (by omega)) (by omega), blk_setRow_other ((Bf.only hOz hfb).below hb1 (by omega)) (by omega), (hAz.below hb1 (by omega)).set (by omega), ?_⟩
            exact ((hOk.trans hOz (fun _ _ q => q)).trans (Only.of_below (P := fun _ => False) (by rw [hh]; exact hb1)) (fun _ _ q => q.elim)).trans (only_setRow (P := fun j => j = h) h _ rfl) (fun j hj q => by have := hOk.size; omega)
          have BP2 : Blk y2 h p2.cs 103 := by rw [← hy2]; exact blk_setRow BZ1
          have HRP := hide (show y2.rangeAt h 0 p2.cl from blk_range BP2)
          have HRG := hide (show y2.rangeAt (g + 1) 0 rk.cl from blk_range hd.2.1)
          have HD := hide hd
          clear BR BK Bf hOk hb1 BZ1 BP2 hd hAz hOz hfg hfb hzk
          have HR1 := hide (show TR = Req.bare 0 ∧ TB = false by
            have h := unhide HTQ
            rw [hok, if_neg (by decide)] at h
            have h1 := unhide HTR
            have h2 := unhide HTB
            rw [h] at h1 h2
            exact ⟨h1, h2⟩)
          obtain ⟨D1, D2, D3, D4, D5⟩ := unhide HD
          have BT := blk_setRow (cells := (Req.bare 0).cs) D1
          have HL := hide (iload_blk 29 _ BT Tryz.underlying29 rfl size_req)
          have HZ5 := hide D1
          have HO5 := hide (Req.one (Req.bare 0))
          have HBN := hide built_none
          have HF2 := hide (show Only (fun j => j = b) w (y2.setRow g (Req.bare 0).cs) from D5.trans (only_setRow (P := fun j => j = g) g _ rfl) (fun j hj q => by omega))
          clear D1 D2 D3 D4 D5 BT HD HISZ HTQ HC HK
          go_wp2_with (first | refine wpList_store_row rfl 103 (.tmp 9) (.tmp 24) rfl h p2.cs rfl rfl 103 #[.int .i64 0, .string ⟨#[]⟩, .slice none 0 0] (unhide HZ3) size_prt rfl (unhide HO3) ?_ | refine wpList_buildAs rfl 29 #[] rfl _ rfl (Req.bare 0).cs (unhide HBN) ?_ | refine wpList_store_row rfl 29 (.tmp 4) (.tmp 28) rfl g (Req.bare 0).cs rfl rfl 29 #[.int .i64 0, .int .i64 0, .int .i64 0, .int .i64 0, .int .i64 0, .int .i64 0, .string ⟨#[]⟩, .string ⟨#[]⟩, .string ⟨#[]⟩, .string ⟨#[]⟩] (unhide HZ5) size_req rfl (unhide HO5) ?_)
          (try simp only [Exit.inBlock, Exit.then])
          refine bodyPost_ret (v := .tuple #[.agg (Req.bare 0).cs, .bool false]) (results_cell2 (p := 4) (q := 5) (ty := 29) rfl _ _ _ ⟨g, 0, none⟩ rfl _ (unhide HL)) rfl ?_
          exact ⟨by rw [(unhide HR1).1, (unhide HR1).2], unhide HF2⟩
    · obtain rfl : k = n := by omega
      have hkn' : ¬ (k : Int) < (k : Int) := by omega
      have hd : fs.drop k = [] := List.drop_eq_nil_of_le (by rw [unhide HN]; omega)
      rw [hd] at htq
      have htq' : takeQ fs (Req.bare kd) s 1 = some rk := by rw [htq]; rfl
      have HR1 := hide (show TR = rk by have h := unhide HTR; rw [htq'] at h; exact h)
      have HR2 := hide (show TB = true by have h := unhide HTB; rw [htq'] at h; exact h)
      have HRG := hide (show wr.rangeAt (g + 1) 0 rk.cl from blk_range BK)
      have BT := blk_setRow (cells := rk.cs) BR
      have HL := hide (iload_blk 29 _ BT Tryz.underlying29 rfl size_req)
      have HZ := hide BR
      have HO := hide (Req.one rk)
      have HF2 := hide (show Only (fun j => j = b) w (wr.setRow g rk.cs) from hOk.trans (only_setRow (P := fun j => j = g) g _ rfl) (fun j hj q => by omega))
      clear hd htq htq' BR BK hRk hAk hOk hisz BT
      go_wp2_with (first | refine wpList_load_mid rfl 29 (.tmp 6) rfl (g + 1) 0 rfl rk.cl _ (unhide HRG) Tryz.underlying29 rfl size_req ?_ | refine wpList_store_row rfl 29 (.tmp 4) (.tmp 37) rfl g rk.cs rfl rfl 29 #[.int .i64 0, .int .i64 0, .int .i64 0, .int .i64 0, .int .i64 0, .int .i64 0, .string ⟨#[]⟩, .string ⟨#[]⟩, .string ⟨#[]⟩, .string ⟨#[]⟩] (unhide HZ) size_req rfl (unhide HO) ?_)
      (try simp only [Exit.inBlock, Exit.then])
      refine bodyPost_ret (v := .tuple #[.agg rk.cs, .bool true]) (results_cell2 (p := 4) (q := 5) (ty := 29) rfl _ _ _ ⟨g, 0, none⟩ rfl _ (unhide HL)) rfl ?_
      exact ⟨by rw [unhide HR1, unhide HR2], unhide HF2⟩
end Go.Proofs.YtclgkgaobjcifaaGreatDoor
