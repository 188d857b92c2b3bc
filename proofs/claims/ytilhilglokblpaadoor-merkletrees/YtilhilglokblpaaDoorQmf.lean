import Derived.Test.YtilhilglokblpaaDoorQme
namespace Go.Proofs.YtilhilglokblpaaDoor
open Go.RowKit
set_option maxRecDepth 100000
theorem results_tct {fn : Func} {a p b : Tmp} {ty : TypeId} (h : fn.results = #[.tmp a, .cell p ty, .tmp b]) (tmps : Array Value) (P : Program) (w : World) (ad : Addr) (ha : tmps.getD p undef = .pointer (some ad)) (v : Value) (hl : (loadVar ty ad).run P w = .ok v w) :
    (results fn tmps).run P w = .ok (.tuple #[tmps.getD a undef, v, tmps.getD b undef]) w := by
  have ha' : tmps[p]?.getD undef = .pointer (some ad) := by simpa using ha
  simp only [results, h]
  simp [ha', asAddr, hl]
/-- what cutLast answers -/
def CuQ (w : World) (p : Option Addr) (c : Nat) (P : List ByteArray) (e : Ending) (w' : World) : Prop := Below w.heap.size w w' ∧ (P = [] → e = .returned (.tuple #[.slice none 0 0, .agg (dC zB).toArray, .bool false])) ∧ ∀ Q b, P = Q ++ [b] → e = .returned (.tuple #[.slice p Q.length c, .agg (dC (rdB b)).toArray, .bool (decide (b.size = 32))])
theorem CuQ.last {w w' : World} {p : Option Addr} {c : Nat} {Q : List ByteArray} {b : ByteArray} {n : Nat} (hn : Q.length = n) (hb : Below w.heap.size w w') {cd : List Value} (hc : dC (rdB b) = cd) {bb : Bool} (hbb : decide (b.size = 32) = bb) : CuQ w p c (Q ++ [b]) (.returned (.tuple #[.slice p n c, .agg cd.toArray, .bool bb])) w' := ⟨hb, fun q => by simp at q, fun Q' b' e => by
  obtain ⟨rfl, rfl⟩ : Q = Q' ∧ b = b' := by
    have := List.append_inj' e rfl
    exact ⟨this.1, by simpa using this.2⟩
  rw [hn, hc, hbb]⟩
set_option maxHeartbeats 1000000 in
theorem cutLast_any (P : List ByteArray) (q : Nat) (hl : P.length = q) (w : World) (B c : Nat) (p : Option Addr) (hS : SB w B p P) (hB : B ≤ w.heap.size) (hm : q ≤ c) (hc9 : c ≤ 9223372036854775807) : Calls Tryd.prog 55 #[.slice p q c] w (CuQ w p c P) := by
  obtain ⟨h, hh⟩ : ∃ h, w.heap.size = h := ⟨_, rfl⟩
  obtain ⟨x1, hx1⟩ : ∃ q, w.alloc (.cells #[.int .u8 0, .int .u8 0, .int .u8 0, .int .u8 0, .int .u8 0, .int .u8 0, .int .u8 0, .int .u8 0, .int .u8 0, .int .u8 0, .int .u8 0, .int .u8 0, .int .u8 0, .int .u8 0, .int .u8 0, .int .u8 0, .int .u8 0, .int .u8 0, .int .u8 0, .int .u8 0, .int .u8 0, .int .u8 0, .int .u8 0, .int .u8 0, .int .u8 0, .int .u8 0, .int .u8 0, .int .u8 0, .int .u8 0, .int .u8 0, .int .u8 0, .int .u8 0] 46) = q := ⟨_, rfl⟩
  have HA := hide (show Arr x1 h 0 .u8 (List.replicate 32 0) from by rw [← hx1, ← hh]; exact zD_new w)
  have hB1 : Below h w x1 := by rw [← hx1, ← hh]; exact (Below.refl _ w).alloc (Nat.le_refl _) _
  have e1 : x1.heap.size = h + 1 := by rw [← hx1]; simp [hh]
  by_cases hP : P = []
  · subst hP
    obtain rfl : q = 0 := by simpa using hl.symm
    obtain ⟨q1, q2, q3⟩ := zst x1 h zB zB_size (unhide HA)
    have HTH := hide q1
    have HLD := hide q2
    have HE := hide (show CuQ w p c [] (.returned (.tuple #[.slice none 0 0, .agg (dC zB).toArray, .bool false])) (x1.setCells h 0 (dC zB)) from ⟨by rw [hh]; exact q3 w hB1, fun _ => rfl, fun Q b e => by simp at e⟩)
    have HZC := hide (show (#[.int .u8 0, .int .u8 0, .int .u8 0, .int .u8 0, .int .u8 0, .int .u8 0, .int .u8 0, .int .u8 0, .int .u8 0, .int .u8 0, .int .u8 0, .int .u8 0, .int .u8 0, .int .u8 0, .int .u8 0, .int .u8 0, .int .u8 0, .int .u8 0, .int .u8 0, .int .u8 0, .int .u8 0, .int .u8 0, .int .u8 0, .int .u8 0, .int .u8 0, .int .u8 0, .int .u8 0, .int .u8 0, .int .u8 0, .int .u8 0, .int .u8 0, .int .u8 0] : Array Value) = (dC zB).toArray from by rw [zB_cells])
    have HLn := hide (dC_len zB zB_size)
    have HK1 := hide (dC_all zB)
    generalize dC zB = cd at *
    clear q1 q2 q3 hS hB hB1
    go_enter Tryd.func55, Tryd.ntmps55
    go_wp2_with (refine wpList_store_mid rfl 46 (.tmp 3) (.tmp 10) rfl h 0 cd.toArray rfl (by first | rfl | exact congrArg Value.agg (unhide HZC)) (by simpa [unhide HLn] using unhide HTH) (by rw [szD]; simp [unhide HLn]) (unhide HK1) ?_)
    exact bodyPost_ret (v := .tuple #[.slice none 0 0, .agg cd.toArray, .bool false]) (results_tct (fn := Tryd.f55) (a := 2) (p := 3) (b := 4) (ty := 46) rfl _ _ _ ⟨h, 0, none⟩ rfl _ (unhide HLD)) rfl (unhide HE)
  · obtain ⟨Q, b, rfl⟩ := list_last P hP
    obtain ⟨n, hn⟩ : ∃ n, Q.length = n := ⟨_, rfl⟩
    obtain rfl : q = n + 1 := by rw [← hl, List.length_append, hn]; rfl
    obtain ⟨g, o, rfl, hgB, hce⟩ := hS n (by omega)
    rw [show (Q ++ [b]).getD n ⟨#[]⟩ = b from gl_end Q b n hn.symm] at hce
    have hcx : x1.cell? ⟨g, o + n, none⟩ = some (.string b) := (hB1.cell (p := ⟨g, o + n, none⟩) (by show g < h; omega)).trans hce
    have HRD0 := hide (fun W => readDigest_any b W)
    have hrs := rdB_size b
    obtain ⟨d, hd⟩ : ∃ d, rdB b = d := ⟨_, rfl⟩
    obtain ⟨bb, hbb⟩ : ∃ z, decide (b.size = 32) = z := ⟨_, rfl⟩
    rw [hd, hbb] at HRD0
    rw [hd] at hrs
    have HLd := hide (dC_len d hrs)
    have HK1 := hide (dC_all d)
    have HCD := hide (show dC (rdB b) = dC d from by rw [hd])
    have HNW := hide (fun W => (dC_new W d).range)
    have HNW2 := hide (fun y (A : Arr y h 0 .u8 (List.replicate 32 0)) => zst y h d hrs A)
    rw [show (nums d).map (Value.int .u8) = dC d from rfl] at HNW
    generalize dC d = cd at *
    have HL := hide (fun z (hz : Below h w z) => (show CuQ w (some ⟨g, o, none⟩) c (Q ++ [b]) (.returned (.tuple #[.slice (some ⟨g, o, none⟩) n c, .agg cd.toArray, .bool bb])) z from CuQ.last hn (by rw [hh]; exact hz) (unhide HCD) hbb))
    have e2 : ((n + 1 : Nat) : Int) - 1 = (n : Int) := by omega
    have e3 : (n : Int) < ((n + 1 : Nat) : Int) := by omega
    have e4 : (n : Int) < (n : Int) + 1 := by omega
    have e5 : IntKind.i64.wrap (n : Int) = (n : Int) := wrapI_eq _ (by omega) (by omega)
    have e6 : (((n + 1 : Nat) : Int) == 0) = false := by simp; omega
    have e7 : (((n : Int) + 1) == 0) = false := by simp; omega
    have e8 : (n : Int) ≤ (c : Int) := by omega
    have e9 : ((n + 1 : Nat) : Int) ≤ (c : Int) := by omega
    have HB1 := hide hB1
    have HE1 := hide e1
    clear hS hP hl hce hd hbb hn hB hB1 hrs hm e1
    go_enter Tryd.func55, Tryd.ntmps55
    go_wp2_with fail
    refine (unhide HRD0 _).mono ?_
    rintro e y1 ⟨rfl, hb1⟩
    have HB2 := hide (show Below h w y1 from (unhide HB1).trans (hb1.mono (by rw [unhide HE1]; omega)))
    have HA1 := hide ((unhide HA).below hb1 (by rw [unhide HE1]; omega))
    have hs1 : h + 1 ≤ y1.heap.size := by have := hb1.size; rw [unhide HE1] at this; exact this
    clear hb1
    obtain ⟨gd, hgd⟩ : ∃ q, y1.heap.size = q := ⟨_, rfl⟩
    obtain ⟨x2, hx2⟩ : ∃ q, y1.alloc (.cells #[.int .u8 0, .int .u8 0, .int .u8 0, .int .u8 0, .int .u8 0, .int .u8 0, .int .u8 0, .int .u8 0, .int .u8 0, .int .u8 0, .int .u8 0, .int .u8 0, .int .u8 0, .int .u8 0, .int .u8 0, .int .u8 0, .int .u8 0, .int .u8 0, .int .u8 0, .int .u8 0, .int .u8 0, .int .u8 0, .int .u8 0, .int .u8 0, .int .u8 0, .int .u8 0, .int .u8 0, .int .u8 0, .int .u8 0, .int .u8 0, .int .u8 0, .int .u8 0] 46) = q := ⟨_, rfl⟩
    have HT2 := hide (show x2.there gd 0 32 from by rw [← hx2, ← hgd]; simpa using (zD_new y1).there)
    have HA2 := hide (show Arr x2 h 0 .u8 (List.replicate 32 0) from by rw [← hx2]; exact (unhide HA1).alloc (by omega) _)
    have HB3 := hide (show Below h w x2 from by rw [← hx2]; exact (unhide HB2).alloc (by omega) _)
    obtain ⟨x3, hx3⟩ : ∃ q, x2.setCells gd 0 cd = q := ⟨_, rfl⟩
    have HRD := hide (show x3.drew.rangeAt gd 0 cd from by rw [← hx3]; exact World.rangeAt_setCells_same x2 gd 0 cd (by rw [unhide HLd]; exact unhide HT2))
    have HA3 := hide (show Arr x3 h 0 .u8 (List.replicate 32 0) from by rw [← hx3]; exact (unhide HA2).setCells_apart gd 0 cd (.inl (by omega)))
    have HB4 := hide (show Below h w x3.drew from by rw [← hx3]; exact (below_setCells (by omega) _ _ (unhide HB3)).drew)
    obtain ⟨q1, q2, q3⟩ := unhide HNW2 x3.drew (unhide HA3).drew
    have HTH := hide q1
    have HLD := hide q2
    have HE := hide (unhide HL _ (q3 w (unhide HB4)))
    have HRD2 := hide (show (x3.drew.setCells h 0 cd).rangeAt gd 0 cd from World.rangeAt_setCells_apart (unhide HRD) h 0 cd (.inl (by omega)))
    clear q1 q2 q3 HA1 HA2 HB2 HB3
    go_wp2_with (refine wpList_store_mid rfl 46 (.tmp 5) (.tmp 19) rfl gd 0 cd.toArray rfl rfl (by simpa [unhide HLd] using unhide HT2) (by rw [szD]; simp [unhide HLd]) (unhide HK1) ?_)
    refine wp_region_held_drew (S := fun W => W.rangeAt gd 0 cd) (by kernel_rfl) (unhide HRD) ?_
    intro hS
    refine wpAnyH_takeD 0 (some 21) (.slice (some ⟨g, o, none⟩) (n + 1) c) rfl rfl (by kernel_rfl) (by kernel_rfl) (by kernel_rfl) (fun _ _ _ h => h) (Or.inl ⟨by rfl, fun w hSw => by clear hSw; go_simp; try (intro hbad; omega)⟩) hS ?_
    simp only [Act.put, List.setIfInBounds_toArray, List.set_cons_zero, List.set_cons_succ]
    refine wpAnyH_takeD 1 (some 22) (.slice (some ⟨g, o, none⟩) (n + 1) c) rfl rfl (by kernel_rfl) (by kernel_rfl) (by kernel_rfl) (fun _ _ _ h => h) (Or.inl ⟨by rfl, fun w hSw => by clear hSw; go_simp; try (intro hbad; omega)⟩) hS ?_
    simp only [Act.put, List.setIfInBounds_toArray, List.set_cons_zero, List.set_cons_succ]
    refine wpAnyH_takeD 2 (some 23) (.int .i64 ((n : Int) + 1)) rfl rfl (by kernel_rfl) (by kernel_rfl) (by kernel_rfl) (fun _ _ _ h => h) (Or.inl ⟨by rfl, fun w hSw => by clear hSw; go_simp; try (intro hbad; omega)⟩) hS ?_
    simp only [Act.put, List.setIfInBounds_toArray, List.set_cons_zero, List.set_cons_succ]
    refine wpAnyH_takeD 3 (some 24) (.int .i64 (n : Int)) rfl rfl (by kernel_rfl) (by kernel_rfl) (by kernel_rfl) (fun _ _ _ h => h) (Or.inl ⟨by rfl, fun w hSw => by clear hSw; go_simp; try (intro hbad; omega)⟩) hS ?_
    simp only [Act.put, List.setIfInBounds_toArray, List.set_cons_zero, List.set_cons_succ]
    refine wpAnyH_takeD 4 (some 25) (.slice (some ⟨g, o, none⟩) n c) rfl rfl (by kernel_rfl) (by kernel_rfl) (by kernel_rfl) (fun _ _ _ h => h) (Or.inl ⟨by rfl, fun w hSw => by clear hSw; go_simp; try (intro hbad; omega)⟩) hS ?_
    simp only [Act.put, List.setIfInBounds_toArray, List.set_cons_zero, List.set_cons_succ]
    refine wpAnyH_takeD 5 (some 26) (.agg cd.toArray) rfl rfl (by kernel_rfl) (by kernel_rfl) (by kernel_rfl) (fun _ _ _ h => h) (yieldsIf_load_mid (by rfl) 46 (.tmp 5) rfl gd 0 rfl _ _ (fun w hSw => hSw) Tryd.underlying46 rfl (by rw [szD, unhide HLd])) hS ?_
    simp only [Act.put, List.setIfInBounds_toArray, List.set_cons_zero, List.set_cons_succ]
    refine wpAnyH_takeD 6 (some 27) (.bool bb) rfl rfl (by kernel_rfl) (by kernel_rfl) (by kernel_rfl) (fun _ _ _ h => h) (Or.inl ⟨by rfl, fun w hSw => by clear hSw; go_simp; try (intro hbad; omega)⟩) hS ?_
    simp only [Act.put, List.setIfInBounds_toArray, List.set_cons_zero, List.set_cons_succ]
    refine wpAnyH_takeD 7 (some 2) (.slice (some ⟨g, o, none⟩) n c) rfl rfl (by kernel_rfl) (by kernel_rfl) (by kernel_rfl) (fun _ _ _ h => h) (Or.inl ⟨by rfl, fun w hSw => by clear hSw; go_simp; try (intro hbad; omega)⟩) hS ?_
    simp only [Act.put, List.setIfInBounds_toArray, List.set_cons_zero, List.set_cons_succ]
    refine wpAnyH_ready (rs := [8]) (by kernel_rfl) (by simp) ?_
    refine AllReadyH.cons rfl (fun K hK => ?_) AllReadyH.nil
    rw [if_pos (by rfl)]
    refine wp_store_mid 46 (.tmp 3) (.tmp 26) rfl h 0 cd.toArray rfl rfl (by simpa [unhide HLd] using unhide HTH) (by rw [szD]; simp [unhide HLd]) (unhide HK1) ?_
    simp only [List.getElem_toArray, List.getElem_cons_succ, List.getElem_cons_zero, Act.put]
    refine hK.out _ _ (unhide HRD2) (fun hS => ?_)
    clear hK K
    refine wpAnyH_takeD 9 (some 4) (.bool bb) rfl rfl (by kernel_rfl) (by kernel_rfl) (by kernel_rfl) (fun _ _ _ h => h) (Or.inl ⟨by rfl, fun w hSw => by clear hSw; go_simp; try (intro hbad; omega)⟩) hS ?_
    simp only [Act.put, List.setIfInBounds_toArray, List.set_cons_zero, List.set_cons_succ]
    refine wpAnyH_done (by kernel_rfl) ?_ _
    go_wp2_with fail
    exact bodyPost_ret (v := .tuple #[.slice (some ⟨g, o, none⟩) n c, .agg cd.toArray, .bool bb]) (results_tct (fn := Tryd.f55) (a := 2) (p := 3) (b := 4) (ty := 46) rfl _ _ _ ⟨h, 0, none⟩ rfl _ (unhide HLD)) rfl (unhide HE)
end Go.Proofs.YtilhilglokblpaaDoor
