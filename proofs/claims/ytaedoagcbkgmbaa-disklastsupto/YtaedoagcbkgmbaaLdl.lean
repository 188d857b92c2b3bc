import Derived.Test.YtaedoagcbkgmbaaDn2
namespace Go.Proofs.Ytaedoagcbkgmbaa
open Go.RowKit
theorem layP_all (P : ByteArray → Prop) : ∀ (ps : List (Nat × ByteArray)) (L : List ByteArray), (∀ t ∈ L, P t) → (∀ p ∈ ps, P p.2) → ∀ t ∈ layP L ps, P t
  | [], L, h1, _ => h1
  | p :: r, L, h1, h2 => by
    refine layP_all P r (L.set p.1 p.2) (fun t ht => ?_) (fun q hq => h2 q (List.mem_cons_of_mem _ hq))
    rcases List.mem_or_eq_of_mem_set ht with h | h
    · exact h1 t h
    · rw [h]; exact h2 p (List.mem_cons_self)
/-- A sector of this law that is not sector(-7). -/
def Low (t : ByteArray) : Prop := t.size = 256 ∧ (nums t).getD 7 0 = 0
theorem low_zero : Low zero256 := by
  refine ⟨zero256_size, ?_⟩
  show (((List.replicate 256 (0 : UInt8)).toArray.toList).map (fun x => (x.toNat : Int))).getD 7 0 = 0
  rw [List.toList_toArray, List.map_replicate, List.getD_eq_getElem?_getD, List.getElem?_replicate]
  rfl
theorem sector7 (c : Int) : (nums (sectorB c)).getD 7 0 = (c / 72057594037927936) % 256 := by
  rw [sectorB, nums_strOfNums _ (sectorL_bytes c), sectorL, List.getD_eq_getElem?_getD, List.getElem?_set, if_neg (by decide)]
  have := secK_get c 8 7
  rw [List.getD_eq_getElem?_getD] at this
  rw [this, if_pos (by decide), show (2 : Int) ^ (8 * 7) = 72057594037927936 by decide]
theorem low_sector (c : Int) (h0 : 0 ≤ c) (h1 : c < 72057594037927936) : Low (sectorB c) :=
  ⟨sectorB_size c, by rw [sector7, Int.ediv_eq_zero_of_lt h0 h1]; rfl⟩
theorem low_ne (t : ByteArray) (h : Low t) : ¬ t = sectorB (-7) := fun e => by
  have h1 := h.2
  rw [e, sector7] at h1
  exact absurd h1 (by decide)
theorem low_wlist (off : Int) (l : List Int) (h0 : 0 ≤ off) (h1 : off ≤ 1000) (hl : l.length ≤ 1048576) (p : Nat × ByteArray) (hp : p ∈ wlist off l) : Low p.2 ∧ p.1 < 128 := by
  obtain ⟨j, hj, rfl⟩ := List.mem_map.1 hp
  have hj := List.mem_range.1 hj
  exact ⟨low_sector _ (by omega) (by omega), pickP_lt _ _ (by decide)⟩
theorem low_base (l1 : List Int) (hl : l1.length ≤ 1048576) (t : ByteArray) (ht : t ∈ baseL l1) : Low t :=
  layP_all Low _ _ (fun u hu => by rw [zeros] at hu; rw [(List.mem_replicate.1 hu).2]; exact low_zero) (fun p hp => (low_wlist 0 l1 (by decide) (by decide) hl p hp).1) t ht
theorem low_now (l1 l2 : List Int) (hl : l1.length ≤ 1048576) (hl2 : l2.length ≤ 1048576) (t : ByteArray) (ht : t ∈ (filledS l1 l2).now) : Low t :=
  layP_all Low _ _ (low_base l1 hl) (fun p hp => (low_wlist 1000 l2 (by decide) (by decide) hl2 p hp).1) t ht
theorem tels_at : ∀ (l : List (Nat × Nat)) (k : Nat) (hk : k < l.length) (x y : Int), tel1 l[k] = [.int .i64 x, .int .i64 y] → (tels l)[k * 2]? = some (.int .i64 x) ∧ (tels l)[k * 2 + 1]? = some (.int .i64 y)
  | p :: r, 0, _, x, y, h => by
    have h' : tel1 p = [.int .i64 x, .int .i64 y] := h
    simp [tels, h']
  | p :: r, k + 1, hk, x, y, h => by
    have := tels_at r k (by simpa using hk) x y (by simpa using h)
    have hl := tel1_len p
    rw [show (k + 1) * 2 = k * 2 + 2 by omega, tels, List.getElem?_append_right (by omega), List.getElem?_append_right (by omega), hl, show k * 2 + 2 - 2 = k * 2 by omega, show k * 2 + 2 + 1 - 2 = k * 2 + 1 by omega]
    exact this
/-- The acts of a disk that was filled. -/
def facts (l1 l2 : List Int) : List (Nat × Nat) := (wacts (wlist 0 l1) ++ [(1, 0)]) ++ wacts (wlist 1000 l2)
theorem facts_len (l1 l2 : List Int) : (facts l1 l2).length = l1.length + 1 + l2.length := by simp [facts, wacts, wlist_len]; omega
theorem facts_mid (l1 l2 : List Int) : (tels (facts l1 l2))[l1.length * 2]? = some (.int .i64 2) ∧ (tels (facts l1 l2))[l1.length * 2 + 1]? = some (.int .i64 0) := by
  refine tels_at (facts l1 l2) l1.length (by rw [facts_len]; omega) 2 0 ?_
  have e : (facts l1 l2)[l1.length]'(by rw [facts_len]; omega) = (1, 0) := by
    simp only [facts, List.append_assoc]
    rw [List.getElem_append_right (by simp [wacts, wlist_len])]
    simp [wacts, wlist_len]
  rw [e]
  rfl
theorem facts_late (l1 l2 : List Int) (k : Nat) (hk : k < l2.length) : (tels (facts l1 l2))[(l1.length + 1 + k) * 2]? = some (.int .i64 1) ∧ (tels (facts l1 l2))[(l1.length + 1 + k) * 2 + 1]? = some (.int .i64 ((pickP (l2.getD k 0) 128 : Nat) : Int)) := by
  refine tels_at (facts l1 l2) (l1.length + 1 + k) (by rw [facts_len]; omega) 1 _ ?_
  have e : (facts l1 l2)[l1.length + 1 + k]'(by rw [facts_len]; omega) = (0, pickP (l2.getD k 0) 128) := by
    simp only [facts]
    rw [List.getElem_append_right (by simp [wacts, wlist_len])]
    simp [wacts, wlist]
  rw [e]
  rfl
set_option maxRecDepth 100000 in
set_option maxHeartbeats 8000000 in
theorem loads_walk (p1 : Option Addr) (c1 : Nat) (l1 : List Int) (p2 : Option Addr) (c2 : Nat) (l2 : List Int) (at0 : Int) (hat : I64 at0) (w : World) (h1 : Ints w p1 l1) (h2 : Ints w p2 l2) (b1 : ∀ z ∈ l1, I64 z) (b2 : ∀ z ∈ l2, I64 z) (n1 : l1.length ≤ 1048576) (n2 : l2.length ≤ 1048576) :
    Calls Try.prog 5 #[.slice p1 l1.length c1, .slice p2 l2.length c2, .int .i64 at0] w fun e w' => e = .returned (.bool true) ∧ Below w.heap.size w w' := by
  have F1 := hide (filled_any w p1 c1 l1 p2 c2 l2 h1 h2 b1 b2 n1 n2)
  have H2 := hide h2
  have B2 := hide b2
  have lq := pickP_lt at0 128 (by decide)
  have HP := hide (fun W => pick_c at0 128 (by decide) hat 128 rfl W)
  generalize pickP at0 128 = q at *
  have hLL := baseL_len l1
  have hlow := low_base l1 n1
  have hnow := low_now l1 l2 n1 n2
  have hnl : (filledS l1 l2).now.length = 128 := by show (layP (baseL l1) _).length = 128; rw [layP_len]; exact baseL_len l1
  have HNE := hide (low_ne _ (hnow ((filledS l1 l2).now.getD q ByteArray.empty) (by rw [List.getD_eq_getElem?_getD, List.getElem?_eq_getElem (by omega)]; exact List.getElem_mem _)))
  have hlast : (filledS l1 l2).last = baseL l1 := rfl
  have hacts : (filledS l1 l2).acts = facts l1 l2 := rfl
  have hpl : (filledS l1 l2).pend.length = l2.length := wlist_len _ _
  have hsf : (filledS l1 l2).fuse = 0 := rfl
  have hsd : (filledS l1 l2).dead = false := rfl
  have hfl := facts_len l1 l2
  have HFM := hide (facts_mid l1 l2)
  have HFT := hide (facts_late l1 l2)
  generalize filledS l1 l2 = s0 at *
  generalize facts l1 l2 = A at *
  generalize baseL l1 = L at *
  have hts := sectorB_size (-7)
  have HSE := hide (fun W => sector_any (-7) W)
  generalize sectorB (-7) = T at *
  have HA := hide (And.intro hlast (And.intro hacts (And.intro hpl (And.intro hsf hsd))))
  have HL := hide (And.intro hLL (fun t ht => (hlow t ht).1))
  have hrd := readB (s := s0) hsd q (by rw [hlast]; omega)
  have HRD := hide hrd
  generalize hN1 : l1.length = N1 at *
  generalize hN2 : l2.length = N2 at *
  have HN := hide (And.intro hN1 hN2)
  have HW := hide (writeA (s := freshS L) ⟨rfl, rfl⟩ q (by show q < L.length; omega) T hts)
  have HFL := hide hfl
  clear h1 h2 b1 b2 hat hlow hnow hnl hlast hacts hpl hsf hsd hLL hrd hN1 hN2 hts hfl
  go_enter Try.func5, Try.ntmps5
  go_wp2_with fail
  refine (unhide F1).mono ?_
  rintro ev x1 ⟨b, rfl, hI1⟩
  have X1 := hide hI1
  clear hI1 F1
  go_wp2_with fail
  refine (imageD (unhide X1)).mono ?_
  rintro ev x2 ⟨pi, ci, rfl, hst, hI2, _⟩
  rw [(unhide HA).1] at hst ⊢
  have X2 := hide hI2
  have XS := hide hst
  clear hI2 hst X1
  go_wp2_with fail
  refine (loadD pi ci L _ (unhide XS) (by rw [(unhide HL).1]; decide) (by rw [(unhide HL).1]; decide) (unhide HL).2).mono ?_
  rintro ev x3 ⟨b2, rfl, hI3⟩
  have X3 := hide (E2.mk2 (unhide X2) hI3).rot
  clear hI3 X2 XS
  go_wp2_with fail
  refine (size2 (unhide X3)).mono ?_
  rintro ev x4 ⟨rfl, rfl⟩
  rw [show (freshS L).last.length = 128 from (unhide HL).1]
  go_wp2_with fail
  refine (pending2 (unhide X3)).mono ?_
  rintro ev x5 ⟨rfl, rfl⟩
  rw [show (freshS L).pend.length = 0 from rfl]
  go_wp2_with fail
  refine (trace2 (unhide X3) (by show 0 ≤ _; omega)).mono ?_
  rintro ev x6 ⟨rfl, _, hI6, _⟩
  rw [show (freshS L).acts.length = 0 from rfl]
  have X6 := hide hI6
  clear hI6 X3
  go_wp2_with fail
  refine (all2 (unhide X6) rfl).mono ?_
  rintro ev x7 ⟨pw, cw, rfl, hst7, hI7, _⟩
  rw [show (freshS L).now.length = L.length from rfl]
  obtain ⟨F, hF⟩ : ∃ F : Nat → Prop, F = (fun k => False ∨ (x6.heap.size ≤ k ∧ k < x7.heap.size)) := ⟨_, rfl⟩
  rw [← hF] at hst7 hI7
  have X7 := hide hI7
  have XS := hide (show StrsF x7 F pw L from hst7)
  clear hI7 hst7 X6 hF
  go_wp2_with fail
  refine (unhide HP _).mono ?_
  rintro ev x8 ⟨rfl, rfl⟩
  clear HP
  go_wp2_with fail
  refine (unhide HSE _).mono ?_
  rintro ev x9 ⟨rfl, hb9⟩
  have X9 := hide ((unhide X7).below hb9)
  clear hb9 X7
  go_wp2_with fail
  refine (write2 (unhide X9) (by show 0 ≤ _; omega) (by show 0 ≤ _; omega) (q : Int) T).mono ?_
  rintro ev x10 ⟨rfl, hI10⟩
  rw [(unhide HW).1]
  rw [(unhide HW).2] at hI10
  have X10 := hide hI10.rot
  clear hI10 X9
  go_wp2_with fail
  refine (read2 (unhide X10) (q : Int)).mono ?_
  rintro ev x11 ⟨rfl, rfl⟩
  rw [(unhide HRD).1, (unhide HRD).2]
  have hse := str_ne (unhide HNE)
  generalize s0.now.getD q ByteArray.empty = R at *
  go_wp2_with fail
  refine (unhide HSE _).mono ?_
  rintro ev x12 ⟨rfl, hb12⟩
  have X12 := hide ((unhide X10).below hb12).rot
  clear hb12 X10
  go_wp2_with fail
  refine (crash2 (unhide X12) (by show 1 ≤ _; omega) none [] 0 0 rfl (Ints.nil _ _) (by simp)).mono ?_
  rintro ev x13 ⟨rfl, hI13⟩
  rw [(crash_nil _).1]
  rw [(crash_nil _).2] at hI13
  have X13 := hide hI13.rot
  clear hI13 X12 hse
  go_wp2_with fail
  refine (crash2 (unhide X13) (by have := (unhide HA).2.2.1; omega) none [] 0 0 rfl (Ints.nil _ _) (by simp)).mono ?_
  rintro ev x14 ⟨rfl, hI14⟩
  rw [(crash_nil _).1]
  rw [(crash_nil _).2, (unhide HA).1, (unhide HA).2.1] at hI14
  have X14 := hide hI14.rot
  clear hI14 X13
  go_wp2_with fail
  refine (all2 (unhide X14) rfl).mono ?_
  rintro ev x15 ⟨pa, ca, rfl, hst15, hI15, hb15⟩
  have hsa : Strs x15 pa L := hI15.strs hst15
  have hsw : Strs x15 pw L := ((unhide X14).strs (unhide XS)).below hb15
  rw [show (DSt.now { last := (freshS L).last, now := (freshS L).last, pend := [], acts := (freshS L).acts ++ [(0, q)], fuse := 0, dead := false }).length = L.length from rfl]
  have XA := hide hsa
  have XW := hide hsw
  have X15 := hide hI15.rot
  clear hst15 hI15 hb15 hsa hsw X14 XS
  go_wp2_with fail
  refine (same_any _ pa pw ca cw L (unhide XA) (unhide XW) (by rw [(unhide HL).1]; decide)).mono ?_
  rintro ev x16 ⟨rfl, hb16⟩
  have X16 := hide ((unhide X15).below hb16)
  have XW16 := hide ((unhide XW).below hb16)
  clear hb16 X15 XW XA
  go_wp2_with fail
  refine (all2 (unhide X16) rfl).mono ?_
  rintro ev x17 ⟨pd, cd, rfl, hst17, hI17, hb17⟩
  have hsa : Strs x17 pd L := hI17.strs hst17
  rw [show (DSt.now { last := L, now := L, pend := [], acts := A, fuse := 0, dead := false }).length = L.length from rfl]
  have XA := hide hsa
  have XW := hide ((unhide XW16).below hb17)
  have X17 := hide hI17
  clear hst17 hI17 hb17 hsa X16 XW16
  go_wp2_with fail
  refine (same_any _ pd pw cd cw L (unhide XA) (unhide XW) (by rw [(unhide HL).1]; decide)).mono ?_
  rintro ev x18 ⟨rfl, hb18⟩
  have X18 := hide ((unhide X17).below hb18)
  clear hb18 X17 XW XA
  go_wp2_with fail
  refine (trace2 (unhide X18) (by show A.length ≤ _; have := unhide HFL; omega)).mono ?_
  rintro ev x19 ⟨rfl, hk19, hI19, _⟩
  rw [show (DSt.acts { last := L, now := L, pend := [], acts := A, fuse := 0, dead := false }).length = N1 + 1 + N2 from unhide HFL]
  have XB := hide hI19.bel
  have XK := hide (show Blk x19 x18.heap.size (tels A).toArray 53 from hk19)
  have t0 : x19.cell? ⟨x18.heap.size, N1 * 2, none⟩ = some (.int .i64 2) := by rw [(unhide XK).cell]; simpa using (unhide HFM).1
  have t1 : x19.cell? ⟨x18.heap.size, N1 * 2 + 1, none⟩ = some (.int .i64 0) := by rw [(unhide XK).cell]; simpa using (unhide HFM).2
  have hlt := (unhide XK).lt
  clear hk19 hI19 X18 HFM
  generalize x18.heap.size = gt at *
  go_wp2_with fail
  clear t0 t1
  go_loopw [20] (fun i wr => ∃ k : Nat, k ≤ N2 ∧ i = .int .i64 (k : Int) ∧ Below x19.heap.size x19 wr) (fun i _ => N2 - (intOf i).toNat)
  case atStart => exact ⟨0, by omega, rfl, Below.refl _ _⟩
  case round =>
    obtain ⟨k, hk, rfl, hb⟩ := hrel
    have YB := hide hb
    clear hb
    by_cases hkl : k < N2
    · obtain ⟨g, o, rfl, hg, hc⟩ := unhide H2 k (by rw [(unhide HN).2]; exact hkl)
      obtain ⟨u0, u1⟩ := unhide HFT k hkl
      have hz : I64 (l2.getD k 0) := unhide B2 _ (by have := (unhide HN).2; rw [List.getD_eq_getElem?_getD, List.getElem?_eq_getElem (by omega)]; exact List.getElem_mem _)
      have hkB := (unhide XK).below (unhide YB) hlt
      have e0 : wr.cell? ⟨gt, (N1 + 1 + k) * 2, none⟩ = some (.int .i64 1) := by rw [hkB.cell]; simpa using u0
      have e1 : wr.cell? ⟨gt, (N1 + 1 + k) * 2 + 1, none⟩ = some (.int .i64 ((pickP (l2.getD k 0) 128 : Nat) : Int)) := by rw [hkB.cell]; simpa using u1
      have hgs : g < wr.heap.size := by have := (unhide XB).size; have := (unhide YB).size; omega
      have ck : wr.cell? ⟨g, o + k, none⟩ = some (.int .i64 (l2.getD k 0)) := by rw [(unhide YB).cell (p := ⟨g, o + k, none⟩) (by have := (unhide XB).size; show g < x19.heap.size; omega), (unhide XB).cell (p := ⟨g, o + k, none⟩) hg]; exact hc
      have HPK := hide (fun W => pick_c (l2.getD k 0) 128 (by decide) hz 128 rfl W)
      generalize pickP (l2.getD k 0) 128 = j at *
      generalize l2.getD k 0 = z at *
      have i0 : 0 ≤ (k : Int) := by omega
      have i1 : (k : Int) < (N2 : Int) := by omega
      clear hc u0 u1 hz hkB
      go_wp2_with fail
      have cx : (wr.alloc (Obj.cells #[.int .i64 1, .int .i64 (j : Int)] 53)).cell? ⟨g, o + k, none⟩ = some (.int .i64 z) := by rw [World.cell?_alloc_past (hn := hgs)]; exact ck
      have DB := Blk.new wr 53 #[.int .i64 1, .int .i64 (j : Int)]
      have m0 : (wr.alloc (Obj.cells #[.int .i64 1, .int .i64 (j : Int)] 53)).cell? ⟨wr.heap.size, 0, none⟩ = some (.int .i64 1) := DB.cell 0
      have m1 : (wr.alloc (Obj.cells #[.int .i64 1, .int .i64 (j : Int)] 53)).cell? ⟨wr.heap.size, 1, none⟩ = some (.int .i64 (j : Int)) := DB.cell 1
      have YB2 := hide ((unhide YB).alloc (unhide YB).size (Obj.cells #[.int .i64 1, .int .i64 (j : Int)] 53))
      clear DB ck e0 e1
      generalize wr.alloc (Obj.cells #[.int .i64 1, .int .i64 (j : Int)] 53) = y1 at *
      generalize wr.heap.size = gh at *
      go_quiet ((go_at_call 10; exact Calls.quiet_of_same (unhide HPK _)))
      go_wp2
      go_roundw
      case rel => exact ⟨k + 1, by omega, by go_num, below_drewN (unhide YB2) _⟩
      case measure => simp [intOf]; omega
    · clear HFT
      go_wp2
      go_ret
      exact ⟨rfl, (unhide XB).trans ((unhide YB).mono (unhide XB).size)⟩
end Go.Proofs.Ytaedoagcbkgmbaa
