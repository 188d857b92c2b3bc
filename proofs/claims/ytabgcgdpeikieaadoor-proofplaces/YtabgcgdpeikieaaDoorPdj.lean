import Derived.Test.YtabgcgdpeikieaaDoorPdi
import Derived.Test.YtabgcgdpeikieaaDoorPdh
namespace Go.Proofs.YtabgcgdpeikieaaDoor
open Go.RowKit Go.Conc
set_option maxRecDepth 100000
def pushL (l : List Chl) (x : Chl) : List Chl := (if l.length = 4 then l.drop 1 else l) ++ [x]
theorem vals_push (l : List Chl) (x : Chl) : pushC (vals l) (.agg x.cs) = vals (pushL l x) := by
  unfold pushC pushL
  rw [vals_len]
  split <;> simp [vals]
theorem pushL_len (l : List Chl) (x : Chl) (h : l.length ≤ 4) : (pushL l x).length ≤ 4 := by
  unfold pushL
  split
  · simp; omega
  · simp; omega
theorem arr8_eq (l : List Nat) : arr8 l = #[.int .i64 ((l.getD 0 0 : Nat) : Int), .int .i64 ((l.getD 1 0 : Nat) : Int), .int .i64 ((l.getD 2 0 : Nat) : Int), .int .i64 ((l.getD 3 0 : Nat) : Int), .int .i64 ((l.getD 4 0 : Nat) : Int), .int .i64 ((l.getD 5 0 : Nat) : Int), .int .i64 ((l.getD 6 0 : Nat) : Int), .int .i64 ((l.getD 7 0 : Nat) : Int)] := rfl
theorem Bk.put {w w' : World} {b : Nat} {c : Nat → Nat} {n : Nat → Int} {L : Nat → List Chl} (h : Bk w b c n L) (i : Nat) (hi : i < 8) {l : List Chl} (hc : Ch w' (c i) (vals l)) (hl : l.length ≤ 4) (ho : Only (fun x => x = c i) w w') : Bk w' b c n (ups L i l) := by
  refine ⟨h.blk.only ho (fun e => h.ne i hi e.symm), fun j hj => ?_, h.inj, fun j hj => ?_⟩
  · by_cases e : j = i
    · subst e; rw [ups_same]; exact hc
    · rw [ups_ne _ _ _ _ e]; exact (h.ch j hj).only ho (fun q => e (h.inj j i hj hi q))
  · by_cases e : j = i
    · subst e; rw [ups_same]; exact hl
    · rw [ups_ne _ _ _ _ e]; exact h.len j hj
set_option maxHeartbeats 300000 in
theorem offer_ok {w : World} {b : Nat} {c : Nat → Nat} {n : Nat → Int} {L : Nat → List Chl} (h : Bk w b c n L) (i : Nat) (hi : i < 8) (h0 : 0 ≤ n i) (vol blk : Int) (dg wr dr : ByteArray) (hr : dr.size = 16) (hg : dg.size = 32) (hK : KTab w) :
    Calls Tryd.prog 12 #[.pointer (some ⟨b, 0, none⟩), .int .i64 ((i : Int) + 1), .agg #[.int .i64 vol, .int .i64 blk, .string dg, .string wr], .string dr] w fun e w' => ∃ g, e = .returned (.tuple #[.int .i64 (n i % 4294967295 + 1), .slice (some ⟨g, 0, none⟩) 8 8, .int .i64 0]) ∧ w.heap.size ≤ g ∧ Blk w' g (arr8 (plO dr dg)) 78 ∧
      Bk w' b c (ups n i (n i % 4294967295 + 1)) (ups L i (pushL (L i) ⟨n i % 4294967295 + 1, vol, blk, dg, wr, fun j => (((plO dr dg).getD j 0 : Nat) : Int)⟩)) ∧ Only (OnB b c) w w' := by
  obtain ⟨N, hn⟩ : ∃ N, w.heap.size = N := ⟨_, rfl⟩
  obtain ⟨y, hy⟩ : ∃ Z, w.alloc (.cells #[.int .i64 vol, .int .i64 blk, .string dg, .string wr] 31) = Z := ⟨_, rfl⟩
  have hB := Blk.new w 31 #[.int .i64 vol, .int .i64 blk, .string dg, .string wr]
  have hlo : Below N w (w.alloc (.cells #[.int .i64 vol, .int .i64 blk, .string dg, .string wr] 31)) := by rw [← hn]; exact (Below.refl _ _).alloc (Nat.le_refl _) _
  rw [hy, hn] at hB
  rw [hy] at hlo
  have hBy : Bk y b c n L := h.below (by rw [hn]; exact hlo)
  have hKy := hK.low (by rw [hn]; exact hlo)
  have c2 : y.cell? ⟨N, 2, none⟩ = some (.string dg) := by rw [hB.cell]; rfl
  have HD := hide (desk_any y b ((i : Int) + 1) (by omega) (by omega))
  have e2 : (((i : Int) + 1).toNat - 1) * 2 = i * 2 := by omega
  rw [e2] at HD
  have HP := hide (placesOf_any dr dg y hKy)
  have hE : plE dr dg = 0 := by simp [plE, hr, hg]
  rw [hE] at HP
  obtain ⟨p, hp⟩ : ∃ p : Nat → Int, (fun j => (((plO dr dg).getD j 0 : Nat) : Int)) = p := ⟨_, rfl⟩
  have hA : arr8 (plO dr dg) = #[.int .i64 (p 0), .int .i64 (p 1), .int .i64 (p 2), .int .i64 (p 3), .int .i64 (p 4), .int .i64 (p 5), .int .i64 (p 6), .int .i64 (p 7)] := by rw [arr8_eq, ← hp]
  rw [hA] at HP
  have HBy := hide hBy
  have HLO := hide hlo
  have HB := hide hB
  have H0 := hide h0
  have HI := hide hi
  have HGB2 := hide (show b < N ∧ ∀ j, j < 8 → c j < N from by rw [← hn]; exact ⟨h.blk.lt, fun j hj => (h.ch j hj).lt⟩)
  clear hBy hlo hB h hK hKy hE e2 h0 hi hr hg
  obtain ⟨nn, hnn⟩ : ∃ q, n i % 4294967295 + 1 = q := ⟨_, rfl⟩
  have HNE := hide hnn
  rw [hn, hp, hA, hnn]
  clear hp hA hnn
  go_enter Tryd.func12, Tryd.ntmps12
  go_wp2_with (go_at_call 31; refine (unhide HD).mono ?_; rintro e z ⟨rfl, rfl⟩)
  refine (unhide HP).mono ?_
  rintro e z1 ⟨rfl, hb1⟩
  have hBz := (unhide HBy).below hb1
  have hNz := (unhide HB).below hb1 (unhide HB).lt
  have hLz := (unhide HLO).trans (hb1.mono (by have := (unhide HB).lt; omega))
  have hNl := hNz.lt
  clear hb1 HP HD HB HBy HLO c2 hy
  clear z
  obtain ⟨g, hgg⟩ : ∃ g, z1.heap.size = g := ⟨_, rfl⟩
  rw [hgg] at hNl
  have hB2 := Blk.new z1 78 #[.int .i64 0, .int .i64 0, .int .i64 0, .int .i64 0, .int .i64 0, .int .i64 0, .int .i64 0, .int .i64 0]
  have hlo2 : Below g z1 (z1.alloc (.cells #[.int .i64 0, .int .i64 0, .int .i64 0, .int .i64 0, .int .i64 0, .int .i64 0, .int .i64 0, .int .i64 0] 78)) := by rw [← hgg]; exact (Below.refl _ _).alloc (Nat.le_refl _) _
  obtain ⟨y2, hy2⟩ : ∃ Z, z1.alloc (.cells #[.int .i64 0, .int .i64 0, .int .i64 0, .int .i64 0, .int .i64 0, .int .i64 0, .int .i64 0, .int .i64 0] 78) = Z := ⟨_, rfl⟩
  rw [hy2, hgg] at hB2
  rw [hy2] at hlo2
  have HX := hide (And.intro (hBz.below (by rw [hgg]; exact hlo2)) (And.intro (hNz.below hlo2 hNl) (And.intro (hLz.trans (hlo2.mono (by omega))) hB2)))
  have HGN := hide hNl
  have HGB := hide (show b < g ∧ ∀ j, j < 8 → c j < g from by rw [← hgg]; exact ⟨hBz.blk.lt, fun j hj => (hBz.ch j hj).lt⟩)
  clear hBz hNz hLz hB2 hlo2 hNl
  simp only []
  rename_i K8 a8 K9 a9
  have A8 := hide a8
  clear a8
  go_step
  go_wp2_with (refine wpList_store_mid rfl 78 (.tmp 13) (.tmp 29) rfl g 0 #[.int .i64 (p 0), .int .i64 (p 1), .int .i64 (p 2), .int .i64 (p 3), .int .i64 (p 4), .int .i64 (p 5), .int .i64 (p 6), .int .i64 (p 7)] rfl rfl (blk_there (unhide HX).2.2.2 8 rfl) (by rw [sizePla]; rfl) (by simp [Value.oneCell']) ?_)
  have hgz : Blk (y2.setCells g 0 [.int .i64 (p 0), .int .i64 (p 1), .int .i64 (p 2), .int .i64 (p 3), .int .i64 (p 4), .int .i64 (p 5), .int .i64 (p 6), .int .i64 (p 7)]) g #[.int .i64 (p 0), .int .i64 (p 1), .int .i64 (p 2), .int .i64 (p 3), .int .i64 (p 4), .int .i64 (p 5), .int .i64 (p 6), .int .i64 (p 7)] 78 := setCells_all (unhide HX).2.2.2 [.int .i64 (p 0), .int .i64 (p 1), .int .i64 (p 2), .int .i64 (p 3), .int .i64 (p 4), .int .i64 (p 5), .int .i64 (p 6), .int .i64 (p 7)] rfl
  have ho2 : Only (fun x => x = g) y2 (y2.setCells g 0 [.int .i64 (p 0), .int .i64 (p 1), .int .i64 (p 2), .int .i64 (p 3), .int .i64 (p 4), .int .i64 (p 5), .int .i64 (p 6), .int .i64 (p 7)]) := only_cells g 0 _ rfl
  have hgx : g ≠ b ∧ ∀ j, j < 8 → g ≠ c j := by
    have hb := (unhide HX).1
    have hgn := unhide HGB
    exact ⟨by omega, fun j hj => by have := hgn.2 j hj; omega⟩
  have hBk2 : Bk (y2.setCells g 0 [.int .i64 (p 0), .int .i64 (p 1), .int .i64 (p 2), .int .i64 (p 3), .int .i64 (p 4), .int .i64 (p 5), .int .i64 (p 6), .int .i64 (p 7)]) b c n L := (unhide HX).1.only ho2 (fun e => hgx.1 e.symm) (fun j hj e => hgx.2 j hj e.symm)
  have hN2 : Blk (y2.setCells g 0 [.int .i64 (p 0), .int .i64 (p 1), .int .i64 (p 2), .int .i64 (p 3), .int .i64 (p 4), .int .i64 (p 5), .int .i64 (p 6), .int .i64 (p 7)]) N _ _ := (unhide HX).2.1.only ho2 (by have := unhide HGN; omega)
  have hL2 : Below N w (y2.setCells g 0 [.int .i64 (p 0), .int .i64 (p 1), .int .i64 (p 2), .int .i64 (p 3), .int .i64 (p 4), .int .i64 (p 5), .int .i64 (p 6), .int .i64 (p 7)]) := (unhide HX).2.2.1.trans (ho2.below (by have := (unhide HX).2.2.2.lt; have := unhide HGN; omega) (fun k hk => by have := unhide HGN; omega))
  generalize y2.setCells g 0 [.int .i64 (p 0), .int .i64 (p 1), .int .i64 (p 2), .int .i64 (p 3), .int .i64 (p 4), .int .i64 (p 5), .int .i64 (p 6), .int .i64 (p 7)] = z2 at *
  have HZ := hide (And.intro hBk2 (And.intro hN2 (And.intro hL2 hgz)))
  have HGX := hide hgx
  have HNN := hide (nonce_any hBk2 i (unhide HI) (unhide H0))
  clear hgz ho2 hBk2 hN2 hL2 hgx HX hy2 hgg
  clear y2
  refine unhide A8 _ _ ?_
  clear A8 K8
  rw [unhide HNE] at HNN
  go_wp2_with fail
  refine (unhide HNN).mono ?_
  rintro e z3 ⟨rfl, hBk3, ho3⟩
  obtain ⟨hq2, hN2, hL2, hgz⟩ := unhide HZ
  have hbn := (unhide HGB).1
  have hN3 := hN2.only ho3 (by have := unhide HGN; have := unhide HGB2; omega)
  have hg3 := hgz.only ho3 (unhide HGX).1
  have hO3 : Only (OnB b c) w z3 := (Only.of_below (P := OnB b c) (show Below w.heap.size w z2 by rw [hn]; exact hL2)).trans ho3 (fun k _ e => .inl e)
  have HZ3 := hide (And.intro hBk3 (And.intro hg3 hO3))
  have HADD := hide (add_any (hBk3.chan i (unhide HI)) (hBk3.ch i (unhide HI)) (by rw [vals_len]; exact hBk3.len i (unhide HI)) nn vol blk dg wr p)
  have HRG := hide (blk_range (cs := [.int .i64 (p 0), .int .i64 (p 1), .int .i64 (p 2), .int .i64 (p 3), .int .i64 (p 4), .int .i64 (p 5), .int .i64 (p 6), .int .i64 (p 7)]) hg3)
  have d0 : z3.cell? ⟨N, 0, none⟩ = some (.int .i64 vol) := by rw [hN3.cell]; rfl
  have d1 : z3.cell? ⟨N, 1, none⟩ = some (.int .i64 blk) := by rw [hN3.cell]; rfl
  have d2 : z3.cell? ⟨N, 2, none⟩ = some (.string dg) := by rw [hN3.cell]; rfl
  have d3 : z3.cell? ⟨N, 3, none⟩ = some (.string wr) := by rw [hN3.cell]; rfl
  have HNG := hide (show N ≤ g from by have := unhide HGN; omega)
  clear hq2 hBk3 ho3 hN2 hL2 hgz hbn hN3 hg3 hO3 HZ HNN HGN HGB
  clear z2
  go_wp2_with (first | refine wpList_load_mid rfl 78 (.tmp 13) rfl g 0 rfl [.int .i64 (p 0), .int .i64 (p 1), .int .i64 (p 2), .int .i64 (p 3), .int .i64 (p 4), .int .i64 (p 5), .int .i64 (p 6), .int .i64 (p 7)] _ (unhide HRG) Tryd.underlying78 rfl (by rw [sizePla]; rfl) ?_ | (go_at_call 34; refine (unhide HADD).mono ?_; rintro e z4 ⟨rfl, hC4, hO4⟩; have HC4 := hide hC4; have HO4 := hide hO4; clear hC4 hO4))
  go_still (by kernel_rfl)
  go_wp2
  go_ret3
  obtain ⟨hB3, hg3, hO3⟩ := unhide HZ3
  have hvp := unhide HC4
  rw [show (Value.agg #[.int .i64 nn, .int .i64 vol, .int .i64 blk, .string dg, .string wr, .int .i64 (p 0), .int .i64 (p 1), .int .i64 (p 2), .int .i64 (p 3), .int .i64 (p 4), .int .i64 (p 5), .int .i64 (p 6), .int .i64 (p 7)]) = .agg (Chl.cs ⟨nn, vol, blk, dg, wr, p⟩) from rfl, vals_push] at hvp
  have hO4 := unhide HO4
  refine ⟨g, rfl, unhide HNG, hg3.only hO4.drew ((unhide HGX).2 i (unhide HI)), hB3.put i (unhide HI) hvp.drew (pushL_len _ _ (hB3.len i (unhide HI))) hO4.drew, (hO3.trans hO4 (fun k _ e => .inr ⟨i, unhide HI, e⟩)).drew⟩
end Go.Proofs.YtabgcgdpeikieaaDoor
