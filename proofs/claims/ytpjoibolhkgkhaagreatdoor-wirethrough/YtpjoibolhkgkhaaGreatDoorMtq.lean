import Derived.Test.YtpjoibolhkgkhaaGreatDoorMwf
import Derived.BigQuiet
namespace Go.Proofs.YtpjoibolhkgkhaaGreatDoor
open Go.RowKit
set_option maxRecDepth 100000
/-- what takeReply answers of a reply that is not full -/
def TrN (Z : Bool) (st : Int) (b : Nat) (w : World) (e : Ending) (w' : World) : Prop := e = .returned (.tuple #[.agg (Rep.bare st).cs, .bool Z]) ∧ Only (fun j => j = b) w w'
set_option maxHeartbeats 8000000 in
theorem takeReplyZ (kd st : Int) (hfull : fullP kd st = false) (s : ByteArray) (hs : s.size ≤ 150000000000000) (hsz : 1 + szF (rpF kd) ≤ s.size) (w : World) (b : Nat) (hA : At w b s 1) (hE : ETy w) :
    Calls Tryz.prog 44 #[.pointer (some ⟨b, 0, none⟩), .int .i64 kd, .int .i64 st] w fun e w' => TrN ((s.extract 1 (1 + szF (rpF kd))).toList == (strOfNums (List.replicate (szF (rpF kd)) (0 : Int))).toList) st b w e w' := by
  obtain ⟨B1, B2, hbl, hs2⟩ := two_boxes w #[.int .i64 0, .int .i64 0, .int .i64 0, .slice none 0 0, .int .i64 0, .slice none 0 0, .string ⟨#[]⟩, .string ⟨#[]⟩] #[.int .i64 0, .int .i64 0, .int .i64 0, .slice none 0 0, .int .i64 0, .slice none 0 0, .string ⟨#[]⟩, .string ⟨#[]⟩] 34 34
  obtain ⟨g, hg⟩ : ∃ g, w.heap.size = g := ⟨_, rfl⟩
  obtain ⟨y0, hy0⟩ : ∃ Z, w.alloc (.cells #[.int .i64 0, .int .i64 0, .int .i64 0, .slice none 0 0, .int .i64 0, .slice none 0 0, .string ⟨#[]⟩, .string ⟨#[]⟩] 34) = Z := ⟨_, rfl⟩
  have B0 : Blk y0 g #[.int .i64 0, .int .i64 0, .int .i64 0, .slice none 0 0, .int .i64 0, .slice none 0 0, .string ⟨#[]⟩, .string ⟨#[]⟩] 34 := by rw [← hy0, ← hg]; exact Blk.new w _ _
  have hb0 : Below g w y0 := by rw [← hy0, ← hg]; exact (Below.refl _ w).alloc (Nat.le_refl _) _
  have hs0 : y0.heap.size = g + 1 := by rw [← hy0, World.size_alloc, hg]
  have hbg : b < g := by rw [← hg]; exact hA.lt
  have hne := Rds.ne hA hE
  have HEW := hide (fun W (h : Only (fun j => j = b) w W) => hE.only h (fun q => hne q.symm))
  have hO0 : Only (fun j => j = b) w y0 := Only.of_below (by rw [hg]; exact hb0)
  have HY := hide (And.intro B0 (And.intro (hA.below hb0 hbg) hO0))
  have HF := hide (rpf_any kd)
  have HALL := hide (rpF_all kd)
  have HLEN := hide (rpF_len kd)
  have HB0 := hide (built_rep st)
  have HO1 := hide (Rep.one (Rep.bare st))
  have HFU := hide (isFull_any kd st)
  have HSZ := hide hsz
  have hs9 : szF (rpF kd) ≤ 1000 := by
    unfold rpF
    (repeat' split) <;> decide
  generalize rpF kd = fs at *
  obtain ⟨ZZ, hZZ⟩ : ∃ Z, ((s.extract 1 (1 + szF (fs))).toList == (strOfNums (List.replicate (szF (fs)) (0 : Int))).toList) = Z := ⟨_, rfl⟩
  rw [hZZ]
  have HZZ := hide hZZ
  clear hZZ
  clear B1 B2 hbl hs2 hA hE B0 hb0 hO0 hsz hne
  rw [hfull] at HFU
  go_enter Tryz.func44, Tryz.ntmps44
  go_wp2_with fail
  clear hy0
  refine (unhide HF _).mono ?_
  rintro e x ⟨fvv, rfl, hR, hx⟩
  obtain ⟨p, rfl, hp⟩ := hR.form
  obtain ⟨C0, hA0, hO0⟩ := unhide HY
  have hxs : g + 1 ≤ x.heap.size := by have := hx.size; omega
  obtain ⟨h, hh⟩ : ∃ h, x.heap.size = h := ⟨_, rfl⟩
  obtain ⟨xa, hxa⟩ : ∃ Z, x.alloc (.cells #[.int .i64 0, .int .i64 0, .int .i64 0, .slice none 0 0, .int .i64 0, .slice none 0 0, .string ⟨#[]⟩, .string ⟨#[]⟩] 34) = Z := ⟨_, rfl⟩
  obtain ⟨x2, hx2⟩ : ∃ Z, xa.setRow h (Rep.bare st).cs = Z := ⟨_, rfl⟩
  have HBA := hide (show Blk xa h #[.int .i64 0, .int .i64 0, .int .i64 0, .slice none 0 0, .int .i64 0, .slice none 0 0, .string ⟨#[]⟩, .string ⟨#[]⟩] 34 from by rw [← hxa, ← hh]; exact Blk.new _ _ _)
  have hba : Below h x xa := by rw [← hxa, ← hh]; exact (Below.refl _ _).alloc (Nat.le_refl _) _
  have hba' : Below x.heap.size x xa := by rw [hh]; exact hba
  have oR : Only (fun j => j = h) xa x2 := by rw [← hx2]; exact only_setRow (P := fun j => j = h) h _ rfl
  have hfl := hR.lt
  have hyl := hA0.lt
  have HX := hide (show Blk x2 g #[.int .i64 0, .int .i64 0, .int .i64 0, .slice none 0 0, .int .i64 0, .slice none 0 0, .string ⟨#[]⟩, .string ⟨#[]⟩] 34 ∧ Blk x2 h (Rep.bare st).cs 34 ∧ At x2 b s 1 ∧ Only (fun j => j = b) w x2 ∧ FR x2 (.slice p fs.length fs.length) fs from
    ⟨((C0.below hx C0.lt).below hba (by omega)).only oR (by omega), by rw [← hx2]; exact blk_setRow (unhide HBA), ((hA0.below hx hA0.lt).below hba (by omega)).only oR (by omega), ((hO0.trans (Only.of_below (P := fun _ => False) hx) (fun _ _ e => e.elim)).trans (Only.of_below (P := fun _ => False) hba') (fun _ _ e => e.elim)).trans oR (fun k hk q => by omega), (hR.below hba (fun q hq => by have := hfl q hq; omega)).only oR (fun q hq e => by have := hfl q hq; omega)⟩)
  have hgh : g + 1 ≤ h := by omega
  obtain ⟨n, hn⟩ : ∃ n, fs.length = n := ⟨_, rfl⟩
  have HN := hide hn
  rw [hn]
  clear hp hR C0 hA0 hO0 hx hn HY hba hba' oR hfl hyl hs0 hxs
  go_wp2_with (first | refine wpList_buildAs rfl 34 #[(0, .tmp 17)] rfl _ rfl (Rep.bare st).cs (unhide HB0) ?_ | refine wpList_store_row rfl 34 (.tmp 9) (.tmp 18) rfl h (Rep.bare st).cs rfl rfl 34 #[.int .i64 0, .int .i64 0, .int .i64 0, .slice none 0 0, .int .i64 0, .slice none 0 0, .string ⟨#[]⟩, .string ⟨#[]⟩] (unhide HBA) size_rep rfl (unhide HO1) ?_)
  clear hxa hx2 HBA
  refine (unhide HFU _).mono ?_
  rintro e x' ⟨rfl, hx'⟩
  subst x'
  obtain ⟨C1, C2, hA1, hO1, hR1⟩ := unhide HX
  rw [unhide HN] at hR1
  have HFS := hide (fieldsSize_any fs (fun f hf => (unhide HALL f hf).isF) (by have := unhide HLEN; omega) (.slice p n n) x2 hR1)
  obtain ⟨d, hd⟩ : ∃ d, szF fs = d := ⟨_, rfl⟩
  rw [hd] at HFS hs9
  have HDD := hide hd
  have HD := hide (show 1 + d ≤ s.size from by rw [← hd]; exact unhide HSZ)
  have HC := hide (And.intro C1 (And.intro C2 (And.intro hA1 hO1)))
  clear C1 C2 hA1 hO1 hR1 HX hd
  go_wp2_with fail
  refine (unhide HFS).mono ?_
  rintro e x3 ⟨rfl, hx3⟩
  have HC3 := hide (show Blk x3 g #[.int .i64 0, .int .i64 0, .int .i64 0, .slice none 0 0, .int .i64 0, .slice none 0 0, .string ⟨#[]⟩, .string ⟨#[]⟩] 34 ∧ Blk x3 h (Rep.bare st).cs 34 ∧ At x3 b s 1 ∧ Only (fun j => j = b) w x3 from ⟨(unhide HC).1.below hx3 (unhide HC).1.lt, (unhide HC).2.1.below hx3 (unhide HC).2.1.lt, (unhide HC).2.2.1.below hx3 (unhide HC).2.2.1.lt, (unhide HC).2.2.2.trans (Only.of_below (P := fun _ => False) hx3) (fun _ _ e => e.elim)⟩)
  clear hx3 HC HFS
  go_wp2_with fail
  obtain ⟨rl, hrl⟩ : ∃ l, (Rep.bare st).cl = l := ⟨_, rfl⟩
  have hrc : (Rep.bare st).cs = rl.toArray := by rw [← hrl]; rfl
  have hl8 : rl.length = 8 := by rw [← hrl]; rfl
  have HRS := hide (show (Tryz.prog.info? 34).map (·.size) = some rl.length from by rw [hl8]; exact size_rep)
  have HONE := hide (show rl.toArray.all (·.oneCell') = true from by rw [← hrc]; exact Rep.one _)
  have HRC := hide hrc
  refine wp_region_held_drew (S := fun x => x.rangeAt h 0 rl) (by kernel_rfl) (by have h9 := (unhide HC3).2.1; rw [hrc] at h9; exact blk_range h9) ?_
  intro hS
  obtain ⟨xd, hxd⟩ : ∃ X, x3.drew = X := ⟨_, rfl⟩
  rw [hxd] at hS ⊢
  have HX3 := hide (show Blk xd g #[.int .i64 0, .int .i64 0, .int .i64 0, .slice none 0 0, .int .i64 0, .slice none 0 0, .string ⟨#[]⟩, .string ⟨#[]⟩] 34 ∧ Blk xd h rl.toArray 34 ∧ At xd b s 1 ∧ Only (fun j => j = b) w xd from by
    rw [← hxd]
    obtain ⟨u1, u2, u3, u4⟩ := unhide HC3
    exact ⟨u1, by rw [hrc] at u2; exact u2, u3, u4.drew⟩)
  have HRW := hide (rawA xd b s 1 d (unhide HX3).2.2.1 (unhide HEW xd (unhide HX3).2.2.2) hs (unhide HD))
  have HNO := hide (fun W => noughts_any d hs9 W)
  obtain ⟨T1, hT1⟩ : ∃ T, s.extract 1 (1 + d) = T := ⟨_, rfl⟩
  obtain ⟨Z1, hZ1⟩ : ∃ Z, strOfNums (List.replicate d (0 : Int)) = Z := ⟨_, rfl⟩
  obtain ⟨D1, hD1⟩ : ∃ D, (T1.toList == Z1.toList) = D := ⟨_, rfl⟩
  have HDZ := hide (show D1 = ZZ by rw [← hD1, ← hT1, ← hZ1, ← unhide HDD]; exact unhide HZZ)
  rw [hT1] at HRW
  rw [hZ1] at HNO
  clear hxd hT1 hZ1 hrl hrc HC3 hl8
  refine wpAnyH_takeD 0 (some 25) (.agg rl.toArray) rfl rfl (by kernel_rfl) (by kernel_rfl) (by kernel_rfl) (fun _ _ _ h => h) (yieldsIf_load_mid (by rfl) 34 (.tmp 9) rfl h 0 rfl rl _ (fun _ hq => hq) Tryz.underlying34 rfl (unhide HRS)) hS ?_
  simp only [Act.put, List.setIfInBounds_toArray, List.set_cons_zero, List.set_cons_succ]
  refine wpAnyH_takeD 1 (some 26) (.pointer (some ⟨b, 0, none⟩)) rfl rfl (by kernel_rfl) (by kernel_rfl) (by kernel_rfl) (fun _ _ _ h => h) (Or.inl ⟨by rfl, fun w hSw => by clear hSw; go_simp⟩) hS ?_
  simp only [Act.put, List.setIfInBounds_toArray, List.set_cons_zero, List.set_cons_succ]
  refine wpAnyH_takeD 2 (some 27) (.int .i64 (d : Int)) rfl rfl (by kernel_rfl) (by kernel_rfl) (by kernel_rfl) (fun _ _ _ h => h) (Or.inl ⟨by rfl, fun w hSw => by clear hSw; go_simp⟩) hS ?_
  simp only [Act.put, List.setIfInBounds_toArray, List.set_cons_zero, List.set_cons_succ]
  refine wpAnyH_takeD 4 (some 29) (.int .i64 (d : Int)) rfl rfl (by kernel_rfl) (by kernel_rfl) (by kernel_rfl) (fun _ _ _ h => h) (Or.inl ⟨by rfl, fun w hSw => by clear hSw; go_simp⟩) hS ?_
  simp only [Act.put, List.setIfInBounds_toArray, List.set_cons_zero, List.set_cons_succ]
  refine wpAnyH_ready (rs := [3]) (by kernel_rfl) (by simp) ?_
  refine AllReadyH.cons rfl (fun K hK => ?_) AllReadyH.nil
  simp only [List.getElem_toArray, List.getElem_cons_succ, List.getElem_cons_zero]
  go_simp
  refine (unhide HRW).mono ?_
  rintro e z1 ⟨rfl, hA1, hO1⟩
  have HZ1 := hide (show Blk z1 g #[.int .i64 0, .int .i64 0, .int .i64 0, .slice none 0 0, .int .i64 0, .slice none 0 0, .string ⟨#[]⟩, .string ⟨#[]⟩] 34 ∧ Blk z1 h rl.toArray 34 ∧ Only (fun j => j = b) w z1 from ⟨(unhide HX3).1.only hO1 (by omega), (unhide HX3).2.1.only hO1 (by omega), (unhide HX3).2.2.2.trans hO1 (fun _ _ q => q)⟩)
  clear hA1 hO1 HRW HX3
  refine hK.out _ _ (blk_range (unhide HZ1).2.1) (fun hS => ?_)
  clear hK K
  refine wpAnyH_ready (rs := [5]) (by kernel_rfl) (by simp) ?_
  refine AllReadyH.cons rfl (fun K hK => ?_) AllReadyH.nil
  simp only [List.getElem_toArray, List.getElem_cons_succ, List.getElem_cons_zero]
  go_simp
  refine (unhide HNO z1).mono ?_
  rintro e z2 ⟨rfl, hb2⟩
  have HZ2 := hide (show Blk z2 g #[.int .i64 0, .int .i64 0, .int .i64 0, .slice none 0 0, .int .i64 0, .slice none 0 0, .string ⟨#[]⟩, .string ⟨#[]⟩] 34 ∧ Blk z2 h rl.toArray 34 ∧ Only (fun j => j = b) w z2 from ⟨(unhide HZ1).1.below hb2 (unhide HZ1).1.lt, (unhide HZ1).2.1.below hb2 (unhide HZ1).2.1.lt, (unhide HZ1).2.2.trans (Only.of_below (P := fun _ => False) hb2) (fun _ _ e => e.elim)⟩)
  clear hb2 HZ1
  refine hK.out _ _ (blk_range (unhide HZ2).2.1) (fun hS => ?_)
  clear hK K
  refine wpAnyH_takeD 6 (some 31) (.bool D1) rfl rfl (by kernel_rfl) (by kernel_rfl) (by kernel_rfl) (fun _ _ _ h => h) (Or.inl ⟨by rfl, fun w hSw => by clear hSw; go_simp⟩) hS ?_
  simp only [Act.put, List.setIfInBounds_toArray, List.set_cons_zero, List.set_cons_succ]
  refine wpAnyH_ready (rs := [7]) (by kernel_rfl) (by simp) ?_
  refine AllReadyH.cons rfl (fun K hK => ?_) AllReadyH.nil
  simp only [List.getElem_toArray, List.getElem_cons_succ, List.getElem_cons_zero]
  rw [if_pos (by rfl)]
  refine wp_store_mid 34 (.tmp 6) (.tmp 25) rfl g 0 rl.toArray rfl rfl (blk_there (unhide HZ2).1 _ (by have := unhide HRS; rw [size_rep] at this; injection this with this; simp; omega)) (by have := unhide HRS; simpa using this) (unhide HONE) ?_
  have HZ5 := hide (show Blk (z2.setCells g 0 rl) g rl.toArray 34 ∧ Blk (z2.setCells g 0 rl) h rl.toArray 34 ∧ Only (fun j => j = b) w (z2.setCells g 0 rl) from ⟨setCells_all (unhide HZ2).1 rl (by have h9 := unhide HRS; rw [size_rep] at h9; exact Option.some.inj h9), blk_cells_other rl 0 (unhide HZ2).2.1 g (by omega), (unhide HZ2).2.2.trans (only_cells (P := fun j => j = g) g 0 rl rfl) (fun k hk q => by omega)⟩)
  simp only
  obtain ⟨z5, hz5⟩ : ∃ Z, z2.setCells g 0 rl = Z := ⟨_, rfl⟩
  rw [hz5] at HZ5 ⊢
  clear hz5 HZ2
  simp only [Act.put]
  refine hK.out _ _ (blk_range (unhide HZ5).2.1) (fun hS => ?_)
  clear hK K
  refine wpAnyH_takeD 8 (some 7) (.bool D1) rfl rfl (by kernel_rfl) (by kernel_rfl) (by kernel_rfl) (fun _ _ _ h => h) (Or.inl ⟨by rfl, fun w hSw => by clear hSw; go_simp⟩) hS ?_
  simp only [Act.put, List.setIfInBounds_toArray, List.set_cons_zero, List.set_cons_succ]
  refine wpAnyH_done (by kernel_rfl) ?_ _
  clear hS
  have HL := hide (iload_blk 34 _ (unhide HZ5).1 Tryz.underlying34 rfl (by have := unhide HRS; simpa using this))
  go_wp2
  (try simp only [Exit.inBlock, Exit.then])
  refine bodyPost_ret (v := .tuple #[.agg rl.toArray, .bool D1]) (results_cell2 (p := 6) (q := 7) (ty := 34) rfl _ _ _ ⟨g, 0, none⟩ rfl _ (unhide HL)) rfl ?_
  exact ⟨by rw [unhide HRC, unhide HDZ], (unhide HZ5).2.2⟩
end Go.Proofs.YtpjoibolhkgkhaaGreatDoor
namespace Go.Proofs.YtpjoibolhkgkhaaGreatDoor
open Go.RowKit
set_option maxRecDepth 100000
theorem vo_own {w' : World} {N b : Nat} {s : ByteArray} {i : Nat} {P9 : Prt} (hib : i + 9 ≤ s.size) (q : vtB s i = true) (h : ∃ p c, P9 = ⟨0, ⟨#[]⟩, p, vtN s i, c⟩ ∧ w'.ownsRow N 3 1 (.slice p (vtN s i) c) (vtN s i) ((tkB s (i + 1) (vtN s i)).map (Value.int .i64)) ∧ At w' b s (i + 9)) : OwnL w' N P9.p P9.m P9.c (tkB s (i + 1) (vtN s i)) := by
  obtain ⟨p, c, rfl, h2, _⟩ := h
  have h8 : vtN s i ≤ 8 := by
    have := q
    unfold vtB at this
    exact of_decide_eq_true ((Bool.and_eq_true _ _).mp this).1
  exact ⟨(show (tkB s (i + 1) (vtN s i)).length = vtN s i from tkB_len (by omega)).symm, h2⟩
set_option maxHeartbeats 8000000 in
theorem takeReplyP (kd st : Int) (hfull : fullP kd st = true) (s : ByteArray) (hs : s.size ≤ 150000000000000) (hsz : 1 + szF (rpF kd) ≤ s.size) (w : World) (b : Nat) (hA : At w b s 1) (hE : ETy w) (N : Nat) (hNw : w.heap.size = N) :
    Calls Tryz.prog 44 #[.pointer (some ⟨b, 0, none⟩), .int .i64 kd, .int .i64 st] w fun e w' => TrP (takeP (rpF kd) PR.bare s 1) st N b w e w' := by
  obtain ⟨B1, B2, hbl, hs2⟩ := two_boxes w #[.int .i64 0, .int .i64 0, .int .i64 0, .slice none 0 0, .int .i64 0, .slice none 0 0, .string ⟨#[]⟩, .string ⟨#[]⟩] #[.int .i64 0, .int .i64 0, .int .i64 0, .slice none 0 0, .int .i64 0, .slice none 0 0, .string ⟨#[]⟩, .string ⟨#[]⟩] 34 34
  obtain ⟨g, hg⟩ : ∃ g, w.heap.size = g := ⟨_, rfl⟩
  obtain ⟨y0, hy0⟩ : ∃ Z, w.alloc (.cells #[.int .i64 0, .int .i64 0, .int .i64 0, .slice none 0 0, .int .i64 0, .slice none 0 0, .string ⟨#[]⟩, .string ⟨#[]⟩] 34) = Z := ⟨_, rfl⟩
  have B0 : Blk y0 g #[.int .i64 0, .int .i64 0, .int .i64 0, .slice none 0 0, .int .i64 0, .slice none 0 0, .string ⟨#[]⟩, .string ⟨#[]⟩] 34 := by rw [← hy0, ← hg]; exact Blk.new w _ _
  have hb0 : Below g w y0 := by rw [← hy0, ← hg]; exact (Below.refl _ w).alloc (Nat.le_refl _) _
  have hs0 : y0.heap.size = g + 1 := by rw [← hy0, World.size_alloc, hg]
  have hbg : b < g := by rw [← hg]; exact hA.lt
  have hne := Rds.ne hA hE
  have HEW := hide (fun W (h : Only (fun j => j = b) w W) => hE.only h (fun q => hne q.symm))
  have hO0 : Only (fun j => j = b) w y0 := Only.of_below (by rw [hg]; exact hb0)
  have HY := hide (And.intro B0 (And.intro (hA.below hb0 hbg) hO0))
  have HF := hide (rpf_any kd)
  have HALL := hide (rpF_all kd)
  have HLEN := hide (rpF_len kd)
  have HB0 := hide (built_rep st)
  have HO1 := hide (Rep.one (Rep.bare st))
  have HFU := hide (isFull_any kd st)
  have HSZ := hide hsz
  have hs9 : szF (rpF kd) ≤ 1000 := by
    unfold rpF
    (repeat' split) <;> decide
  generalize rpF kd = fs at *
  obtain ⟨O, hO⟩ : ∃ Z, takeP fs PR.bare s 1 = Z := ⟨_, rfl⟩
  rw [hO]
  have HTO := hide hO
  have HNW := hide hNw
  clear hO hNw
  clear B1 B2 hbl hs2 hA hE B0 hb0 hO0 hsz hne
  rw [hfull] at HFU
  go_enter Tryz.func44, Tryz.ntmps44
  go_wp2_with fail
  clear hy0
  refine (unhide HF _).mono ?_
  rintro e x ⟨fvv, rfl, hR, hx⟩
  obtain ⟨p, rfl, hp⟩ := hR.form
  obtain ⟨C0, hA0, hO0⟩ := unhide HY
  have hxs : g + 1 ≤ x.heap.size := by have := hx.size; omega
  obtain ⟨h, hh⟩ : ∃ h, x.heap.size = h := ⟨_, rfl⟩
  obtain ⟨xa, hxa⟩ : ∃ Z, x.alloc (.cells #[.int .i64 0, .int .i64 0, .int .i64 0, .slice none 0 0, .int .i64 0, .slice none 0 0, .string ⟨#[]⟩, .string ⟨#[]⟩] 34) = Z := ⟨_, rfl⟩
  obtain ⟨x2, hx2⟩ : ∃ Z, xa.setRow h (Rep.bare st).cs = Z := ⟨_, rfl⟩
  have HBA := hide (show Blk xa h #[.int .i64 0, .int .i64 0, .int .i64 0, .slice none 0 0, .int .i64 0, .slice none 0 0, .string ⟨#[]⟩, .string ⟨#[]⟩] 34 from by rw [← hxa, ← hh]; exact Blk.new _ _ _)
  have hba : Below h x xa := by rw [← hxa, ← hh]; exact (Below.refl _ _).alloc (Nat.le_refl _) _
  have hba' : Below x.heap.size x xa := by rw [hh]; exact hba
  have oR : Only (fun j => j = h) xa x2 := by rw [← hx2]; exact only_setRow (P := fun j => j = h) h _ rfl
  have hfl := hR.lt
  have hyl := hA0.lt
  have HX := hide (show Blk x2 g #[.int .i64 0, .int .i64 0, .int .i64 0, .slice none 0 0, .int .i64 0, .slice none 0 0, .string ⟨#[]⟩, .string ⟨#[]⟩] 34 ∧ Blk x2 h (Rep.bare st).cs 34 ∧ At x2 b s 1 ∧ Only (fun j => j = b) w x2 ∧ FR x2 (.slice p fs.length fs.length) fs from
    ⟨((C0.below hx C0.lt).below hba (by omega)).only oR (by omega), by rw [← hx2]; exact blk_setRow (unhide HBA), ((hA0.below hx hA0.lt).below hba (by omega)).only oR (by omega), ((hO0.trans (Only.of_below (P := fun _ => False) hx) (fun _ _ e => e.elim)).trans (Only.of_below (P := fun _ => False) hba') (fun _ _ e => e.elim)).trans oR (fun k hk q => by omega), (hR.below hba (fun q hq => by have := hfl q hq; omega)).only oR (fun q hq e => by have := hfl q hq; omega)⟩)
  have hgh : g + 1 ≤ h := by omega
  obtain ⟨n, hn⟩ : ∃ n, fs.length = n := ⟨_, rfl⟩
  have HN := hide hn
  rw [hn]
  clear hp hR C0 hA0 hO0 hx hn HY hba hba' oR hfl hyl hs0 hxs
  go_wp2_with (first | refine wpList_buildAs rfl 34 #[(0, .tmp 17)] rfl _ rfl (Rep.bare st).cs (unhide HB0) ?_ | refine wpList_store_row rfl 34 (.tmp 9) (.tmp 18) rfl h (Rep.bare st).cs rfl rfl 34 #[.int .i64 0, .int .i64 0, .int .i64 0, .slice none 0 0, .int .i64 0, .slice none 0 0, .string ⟨#[]⟩, .string ⟨#[]⟩] (unhide HBA) size_rep rfl (unhide HO1) ?_)
  clear hxa hx2 HBA
  refine (unhide HFU _).mono ?_
  rintro e x' ⟨rfl, hx'⟩
  subst x'
  go_wp2_with fail
  go_loopw [34] (fun ix wr => ∃ (k : Nat) (rk : Rep) (i : Nat) (a : PR), k ≤ n ∧ ix = .int .i64 (k : Int) ∧ i + szF (fs.drop k) ≤ s.size ∧ Blk wr g #[.int .i64 0, .int .i64 0, .int .i64 0, .slice none 0 0, .int .i64 0, .slice none 0 0, .string ⟨#[]⟩, .string ⟨#[]⟩] 34 ∧ Blk wr h rk.cs 34 ∧ FR wr (.slice p n n) fs ∧ At wr b s i ∧ Only (fun j => j = b) w wr ∧ takeP (fs.drop k) a s i = O ∧ RM st (h + 1) rk a wr) (fun ix _ => n - (intOf ix).toNat)
  case atStart =>
    obtain ⟨C1, C2, hA1, hO1, hR⟩ := unhide HX
    refine ⟨0, Rep.bare st, 1, PR.bare, Nat.zero_le _, rfl, by rw [List.drop_zero]; exact unhide HSZ, C1, C2, ?_, hA1, hO1, by rw [List.drop_zero]; exact unhide HTO, RM.bare _ _ _⟩
    rw [unhide HN] at hR
    exact hR
  case round =>
    obtain ⟨k, rk, i, a, hk, rfl, hisz, BR, BK, hRk, hAk, hOk, hTk, hMk⟩ := hrel
    by_cases hkn : k < n
    · have hkn' : (k : Int) < (n : Int) := by omega
      have hk0 : (0 : Int) ≤ (k : Int) := by omega
      have hlen := unhide HN
      have hn4 := unhide HLEN
      obtain ⟨q, hq, hqb⟩ := FR.form (show FR wr (.slice p fs.length fs.length) fs by rw [hlen]; exact hRk)
      obtain ⟨fb, hqe, Bf⟩ := hqb (by omega)
      obtain rfl : p = q := by simpa using hq
      subst hqe
      have hf : IsP (fs[k]'(by omega)) := unhide HALL _ (List.getElem_mem _)
      have hc : wr.cell? ⟨fb, k, none⟩ = some (fv (fs[k]'(by omega))) := fr_cell Bf k (by omega)
      rw [szF_drop fs k (by omega)] at hisz
      have hEr := unhide HEW wr hOk
      clear hq hqb hRk
      rw [← List.getElem_cons_drop (show k < fs.length by omega), takeP] at hTk
      generalize fs[k]'(by omega) = f at *
      have HTK := hide hTk
      have HMK := hide hMk
      clear hTk hMk
      have hfv : fv f = .iface f.ty (.agg f.cs) := rfl
      rw [hfv] at hc
      clear hfv
      have hbr := hAk.lt
      have HK := hide (And.intro BR (And.intro BK (And.intro Bf (And.intro hAk (And.intro hOk hEr)))))
      have hwk : IntKind.i64.wrap ((k : Int) + 1) = ((k + 1 : Nat) : Int) := by rw [wrapI_eq _ (by omega) (by omega)]; omega
      have HISZ := hide hisz
      clear BR BK Bf hAk hOk hEr hisz
      rcases hf with rfl | rfl | rfl | rfl | rfl | rfl | rfl
      · obtain ⟨BR, BK, Bf, hAk, hOk, hEr⟩ := unhide HK
        have hib : i + 2 ≤ s.size := by have h := unhide HISZ; have e : (fQuo).b = 2 := rfl; rw [e] at h; omega
        have hC : Calls Tryz.prog 132 #[.agg #[.int .i64 2, .int .i64 0, .int .i64 65535], .pointer (some ⟨b, 0, none⟩)] wr fun e w' => TkP fQuo b s i 2 wr.heap.size wr e w' := (ntake_any 2 0 65535 (by decide) (by decide) wr b s i hAk hEr hs hib _ rfl).mono (fun e w' h9 => ⟨_, _, h9.1, rfl, fun _ => h9.2.1, h9.2.2, fun _ => rfl⟩)
        have HC := hide hC
        have hc' : wr.cell? ⟨fb, k, none⟩ = some (.iface 122 (.agg #[.int .i64 2, .int .i64 0, .int .i64 65535])) := hc
        have HBF0 := hide (And.intro BR (And.intro BK (And.intro Bf hOk)))
        clear hC hib BR BK Bf hAk hOk hEr hc
        as_aux_lemma =>
          go_wp2_with fail
          refine (unhide HC).mono ?_
          rintro e z ⟨p2, B2, rfl, hB2, hAz, hOz, hPz⟩
          obtain ⟨BR, BK, Bf, hOk⟩ := unhide HBF0
          obtain ⟨v, hv⟩ : ∃ v, z.heap.size = v := ⟨_, rfl⟩
          obtain ⟨y1, hy1⟩ : ∃ Z, z.alloc (.cells #[.int .i64 0, .string ⟨#[]⟩, .slice none 0 0] 103) = Z := ⟨_, rfl⟩
          have hzk := hOz.size
          have hgk : h < wr.heap.size := BK.lt
          have hgr : g < wr.heap.size := BR.lt
          have hfk : fb < wr.heap.size := Bf.lt
          have hfb : fb ≠ b := by
            intro e
            subst e
            obtain ⟨_, _, _, hAk, _, _⟩ := unhide HK
            exact absurd (blkT Bf (show Blk wr fb _ _ from hAk)) (by decide)
          have hfg : fb ≠ g ∧ fb ≠ h := by
            constructor
            · intro e
              subst e
              exact absurd (blkT Bf BR) (by decide)
            · intro e
              subst e
              exact absurd (blkT Bf BK) (by decide)
          have HFG := hide hfg
          have hb1 : Below v z y1 := by rw [← hy1, ← hv]; exact (Below.refl _ z).alloc (Nat.le_refl _) _
          have hb1' : Below z.heap.size z y1 := by rw [hv]; exact hb1
          have BZ1 : Blk y1 v #[.int .i64 0, .string ⟨#[]⟩, .slice none 0 0] 103 := by rw [← hy1, ← hv]; exact Blk.new z _ _
          have HZ3 := hide BZ1
          have HO3 := hide (Prt.one p2)
          obtain ⟨y2, hy2⟩ : ∃ Z, y1.setRow v p2.cs = Z := ⟨_, rfl⟩
          have oV : Only (fun j => j = v) y1 y2 := by rw [← hy2]; exact only_setRow (P := fun j => j = v) v _ rfl
          have hd : Blk y2 g #[.int .i64 0, .int .i64 0, .int .i64 0, .slice none 0 0, .int .i64 0, .slice none 0 0, .string ⟨#[]⟩, .string ⟨#[]⟩] 34 ∧ Blk y2 h rk.cs 34 ∧ Blk y2 fb (fs.map fv).toArray 101 ∧ (B2 = true → At y2 b s (i + 2)) ∧ Only (fun j => j = b) w y2 := by
            refine ⟨((BR.only hOz (by omega)).below hb1 (by omega)).only oV (by omega), ((BK.only hOz (by omega)).below hb1 (by omega)).only oV (by omega), ((Bf.only hOz hfb).below hb1 (by omega)).only oV (by omega), fun q => ((hAz q).below hb1 (by omega)).only oV (by omega), ?_⟩
            exact ((hOk.trans hOz (fun _ _ q => q)).trans (Only.of_below (P := fun _ => False) hb1') (fun _ _ q => q.elim)).trans oV (fun j hj q => by have := hOk.size; omega)
          have BP2 : Blk y2 v p2.cs 103 := by rw [← hy2]; exact blk_setRow BZ1
          have HRP := hide (show y2.rangeAt v 0 p2.cl from blk_range BP2)
          have HRG := hide (show y2.rangeAt h 0 rk.cl from blk_range hd.2.1)
          have HD := hide hd
          have HM2 := hide (show B2 = true → RM st (h + 1) (exr fQuo rk p2).1 (upP fQuo a s i) y2 from fun q => ((((unhide HMK).only hOz (fun j hj _ e => by omega)).step (show IsP fQuo by simp [IsP]) (hPz q) (by omega))).only (P := fun _ => False) ((Only.of_below (P := fun _ => False) hb1').trans oV (fun j hj q => by omega)) (fun _ _ _ q => q))
          clear BR BK Bf hOk hb1 hb1' BZ1 BP2 hd hAz hOz hPz hfg hfb hzk oV HMK
          cases B2 with
          | true =>
            obtain ⟨r2, hr2⟩ : ∃ Z, (exr fQuo rk p2).1 = Z := ⟨_, rfl⟩
            obtain ⟨q2, hq2⟩ : ∃ Z, (exr fQuo rk p2).2 = Z := ⟨_, rfl⟩
            have hEX := exr_any fQuo (by simp [IsP]) rk p2
            rw [hr2, hq2] at hEX
            have hM3 := unhide HM2 rfl
            rw [hr2] at hM3
            have HM3 := hide hM3
            have HT2 := hide (show takeP (fs.drop (k + 1)) (upP fQuo a s i) s (i + 2) = O by
              have := unhide HTK
              rw [if_pos hB2.symm] at this
              exact this)
            clear hM3 HM2 hB2 HTK
            have HEX := hide hEX
            have HI2 := hide (show i + 2 + szF (fs.drop (k + 1)) ≤ s.size by
              have h := unhide HISZ
              have e : (fQuo).b = 2 := rfl
              rw [e] at h
              omega)
            have HO2 := hide (Rep.one r2)
            clear hEX hr2 hq2 HISZ HC HK
            go_wp2_with (first | refine wpList_store_row rfl 103 (.tmp 13) (.tmp 42) rfl v p2.cs rfl rfl 103 #[.int .i64 0, .string ⟨#[]⟩, .slice none 0 0] (unhide HZ3) size_prt rfl (unhide HO3) ?_ | refine wpList_load_mid rfl 34 (.tmp 9) rfl h 0 rfl rk.cl _ (unhide HRG) Tryz.underlying34 rfl size_rep ?_ | refine wpList_load_mid rfl 103 (.tmp 13) rfl v 0 rfl p2.cl _ (unhide HRP) Tryz.underlying103 rfl size_prt ?_)
            refine (unhide HEX _).mono ?_
            rintro e x3 ⟨rfl, hx3⟩
            obtain ⟨D1, D2, D3, D4, D5⟩ := unhide HD
            have E2 := D2.below hx3 D2.lt
            have HZ4 := hide E2
            have oH : Only (fun j => j = h) x3 (x3.setRow h r2.cs) := only_setRow (P := fun j => j = h) h _ rfl
            have HFIN := hide (show Blk (x3.setRow h r2.cs) g #[.int .i64 0, .int .i64 0, .int .i64 0, .slice none 0 0, .int .i64 0, .slice none 0 0, .string ⟨#[]⟩, .string ⟨#[]⟩] 34 ∧ Blk (x3.setRow h r2.cs) h r2.cs 34 ∧ FR (x3.setRow h r2.cs) (.slice (some ⟨fb, 0, none⟩) n n) fs ∧ At (x3.setRow h r2.cs) b s (i + 2) ∧ Only (fun j => j = b) w (x3.setRow h r2.cs) from
              ⟨(D1.below hx3 D1.lt).only oH (by omega), blk_setRow E2, .inr ⟨fb, by rw [hlen], (D3.below hx3 D3.lt).only oH (by have := unhide HFG; omega)⟩, ((D4 (by trivial)).below hx3 (D4 (by trivial)).lt).only oH (by omega), (D5.trans (Only.of_below (P := fun _ => False) hx3) (fun _ _ q => q.elim)).trans oH (fun j hj q => by omega)⟩)
            have HM4 := hide (((unhide HM3).below hx3 (Nat.le_refl _)).only oH (fun j hj _ e => by omega))
            clear D1 D2 D3 D4 D5 E2 hx3 HD oH HM3
            go_wp2_with (refine wpList_store_row rfl 34 (.tmp 9) (.tmp 52) rfl h r2.cs rfl rfl 34 rk.cs (unhide HZ4) size_rep rfl (unhide HO2) ?_)
            obtain ⟨F1, F2, F3, F4, F5⟩ := unhide HFIN
            exact ⟨⟨k + 1, r2, i + 2, upP fQuo a s i, by omega, rfl, unhide HI2, F1, F2, F3, F4, F5, unhide HT2, unhide HM4⟩, by simp [intOf]; omega⟩
          | false =>
            have HTN := hide (show none = O by
              have := unhide HTK
              rw [if_neg (by rw [← hB2]; decide)] at this
              exact this)
            clear hB2 HTK HM2
            obtain ⟨D1, D2, D3, D4, D5⟩ := unhide HD
            have BT := blk_setRow (cells := (Rep.bare 0).cs) D1
            have HL := hide (iload_blk 34 _ BT Tryz.underlying34 rfl size_rep)
            have HZ5 := hide D1
            have HO5 := hide (Rep.one (Rep.bare 0))
            have HBN := hide built_norep
            have HF2 := hide (show Only (fun j => j = b) w (y2.setRow g (Rep.bare 0).cs) from D5.trans (only_setRow (P := fun j => j = g) g _ rfl) (fun j hj q => by omega))
            clear D1 D2 D3 D4 D5 BT HD HISZ HC HK
            go_wp2_with (first | refine wpList_store_row rfl 103 (.tmp 13) (.tmp 42) rfl v p2.cs rfl rfl 103 #[.int .i64 0, .string ⟨#[]⟩, .slice none 0 0] (unhide HZ3) size_prt rfl (unhide HO3) ?_ | refine wpList_buildAs rfl 34 #[] rfl _ rfl (Rep.bare 0).cs (unhide HBN) ?_ | refine wpList_store_row rfl 34 (.tmp 6) (.tmp 46) rfl g (Rep.bare 0).cs rfl rfl 34 #[.int .i64 0, .int .i64 0, .int .i64 0, .slice none 0 0, .int .i64 0, .slice none 0 0, .string ⟨#[]⟩, .string ⟨#[]⟩] (unhide HZ5) size_rep rfl (unhide HO5) ?_)
            (try simp only [Exit.inBlock, Exit.then])
            refine bodyPost_ret (v := .tuple #[.agg (Rep.bare 0).cs, .bool false]) (results_cell2 (p := 6) (q := 7) (ty := 34) rfl _ _ _ ⟨g, 0, none⟩ rfl _ (unhide HL)) rfl ?_
            exact TrP.no (unhide HTN) (unhide HF2)
      · obtain ⟨BR, BK, Bf, hAk, hOk, hEr⟩ := unhide HK
        have hib : i + 2 ≤ s.size := by have h := unhide HISZ; have e : (fCha).b = 2 := rfl; rw [e] at h; omega
        have hC : Calls Tryz.prog 132 #[.agg #[.int .i64 2, .int .i64 0, .int .i64 65535], .pointer (some ⟨b, 0, none⟩)] wr fun e w' => TkP fCha b s i 2 wr.heap.size wr e w' := (ntake_any 2 0 65535 (by decide) (by decide) wr b s i hAk hEr hs hib _ rfl).mono (fun e w' h9 => ⟨_, _, h9.1, rfl, fun _ => h9.2.1, h9.2.2, fun _ => rfl⟩)
        have HC := hide hC
        have hc' : wr.cell? ⟨fb, k, none⟩ = some (.iface 123 (.agg #[.int .i64 2, .int .i64 0, .int .i64 65535])) := hc
        have HBF0 := hide (And.intro BR (And.intro BK (And.intro Bf hOk)))
        clear hC hib BR BK Bf hAk hOk hEr hc
        as_aux_lemma =>
          go_wp2_with fail
          refine (unhide HC).mono ?_
          rintro e z ⟨p2, B2, rfl, hB2, hAz, hOz, hPz⟩
          obtain ⟨BR, BK, Bf, hOk⟩ := unhide HBF0
          obtain ⟨v, hv⟩ : ∃ v, z.heap.size = v := ⟨_, rfl⟩
          obtain ⟨y1, hy1⟩ : ∃ Z, z.alloc (.cells #[.int .i64 0, .string ⟨#[]⟩, .slice none 0 0] 103) = Z := ⟨_, rfl⟩
          have hzk := hOz.size
          have hgk : h < wr.heap.size := BK.lt
          have hgr : g < wr.heap.size := BR.lt
          have hfk : fb < wr.heap.size := Bf.lt
          have hfb : fb ≠ b := by
            intro e
            subst e
            obtain ⟨_, _, _, hAk, _, _⟩ := unhide HK
            exact absurd (blkT Bf (show Blk wr fb _ _ from hAk)) (by decide)
          have hfg : fb ≠ g ∧ fb ≠ h := by
            constructor
            · intro e
              subst e
              exact absurd (blkT Bf BR) (by decide)
            · intro e
              subst e
              exact absurd (blkT Bf BK) (by decide)
          have HFG := hide hfg
          have hb1 : Below v z y1 := by rw [← hy1, ← hv]; exact (Below.refl _ z).alloc (Nat.le_refl _) _
          have hb1' : Below z.heap.size z y1 := by rw [hv]; exact hb1
          have BZ1 : Blk y1 v #[.int .i64 0, .string ⟨#[]⟩, .slice none 0 0] 103 := by rw [← hy1, ← hv]; exact Blk.new z _ _
          have HZ3 := hide BZ1
          have HO3 := hide (Prt.one p2)
          obtain ⟨y2, hy2⟩ : ∃ Z, y1.setRow v p2.cs = Z := ⟨_, rfl⟩
          have oV : Only (fun j => j = v) y1 y2 := by rw [← hy2]; exact only_setRow (P := fun j => j = v) v _ rfl
          have hd : Blk y2 g #[.int .i64 0, .int .i64 0, .int .i64 0, .slice none 0 0, .int .i64 0, .slice none 0 0, .string ⟨#[]⟩, .string ⟨#[]⟩] 34 ∧ Blk y2 h rk.cs 34 ∧ Blk y2 fb (fs.map fv).toArray 101 ∧ (B2 = true → At y2 b s (i + 2)) ∧ Only (fun j => j = b) w y2 := by
            refine ⟨((BR.only hOz (by omega)).below hb1 (by omega)).only oV (by omega), ((BK.only hOz (by omega)).below hb1 (by omega)).only oV (by omega), ((Bf.only hOz hfb).below hb1 (by omega)).only oV (by omega), fun q => ((hAz q).below hb1 (by omega)).only oV (by omega), ?_⟩
            exact ((hOk.trans hOz (fun _ _ q => q)).trans (Only.of_below (P := fun _ => False) hb1') (fun _ _ q => q.elim)).trans oV (fun j hj q => by have := hOk.size; omega)
          have BP2 : Blk y2 v p2.cs 103 := by rw [← hy2]; exact blk_setRow BZ1
          have HRP := hide (show y2.rangeAt v 0 p2.cl from blk_range BP2)
          have HRG := hide (show y2.rangeAt h 0 rk.cl from blk_range hd.2.1)
          have HD := hide hd
          have HM2 := hide (show B2 = true → RM st (h + 1) (exr fCha rk p2).1 (upP fCha a s i) y2 from fun q => ((((unhide HMK).only hOz (fun j hj _ e => by omega)).step (show IsP fCha by simp [IsP]) (hPz q) (by omega))).only (P := fun _ => False) ((Only.of_below (P := fun _ => False) hb1').trans oV (fun j hj q => by omega)) (fun _ _ _ q => q))
          clear BR BK Bf hOk hb1 hb1' BZ1 BP2 hd hAz hOz hPz hfg hfb hzk oV HMK
          cases B2 with
          | true =>
            obtain ⟨r2, hr2⟩ : ∃ Z, (exr fCha rk p2).1 = Z := ⟨_, rfl⟩
            obtain ⟨q2, hq2⟩ : ∃ Z, (exr fCha rk p2).2 = Z := ⟨_, rfl⟩
            have hEX := exr_any fCha (by simp [IsP]) rk p2
            rw [hr2, hq2] at hEX
            have hM3 := unhide HM2 rfl
            rw [hr2] at hM3
            have HM3 := hide hM3
            have HT2 := hide (show takeP (fs.drop (k + 1)) (upP fCha a s i) s (i + 2) = O by
              have := unhide HTK
              rw [if_pos hB2.symm] at this
              exact this)
            clear hM3 HM2 hB2 HTK
            have HEX := hide hEX
            have HI2 := hide (show i + 2 + szF (fs.drop (k + 1)) ≤ s.size by
              have h := unhide HISZ
              have e : (fCha).b = 2 := rfl
              rw [e] at h
              omega)
            have HO2 := hide (Rep.one r2)
            clear hEX hr2 hq2 HISZ HC HK
            go_wp2_with (first | refine wpList_store_row rfl 103 (.tmp 13) (.tmp 42) rfl v p2.cs rfl rfl 103 #[.int .i64 0, .string ⟨#[]⟩, .slice none 0 0] (unhide HZ3) size_prt rfl (unhide HO3) ?_ | refine wpList_load_mid rfl 34 (.tmp 9) rfl h 0 rfl rk.cl _ (unhide HRG) Tryz.underlying34 rfl size_rep ?_ | refine wpList_load_mid rfl 103 (.tmp 13) rfl v 0 rfl p2.cl _ (unhide HRP) Tryz.underlying103 rfl size_prt ?_)
            refine (unhide HEX _).mono ?_
            rintro e x3 ⟨rfl, hx3⟩
            obtain ⟨D1, D2, D3, D4, D5⟩ := unhide HD
            have E2 := D2.below hx3 D2.lt
            have HZ4 := hide E2
            have oH : Only (fun j => j = h) x3 (x3.setRow h r2.cs) := only_setRow (P := fun j => j = h) h _ rfl
            have HFIN := hide (show Blk (x3.setRow h r2.cs) g #[.int .i64 0, .int .i64 0, .int .i64 0, .slice none 0 0, .int .i64 0, .slice none 0 0, .string ⟨#[]⟩, .string ⟨#[]⟩] 34 ∧ Blk (x3.setRow h r2.cs) h r2.cs 34 ∧ FR (x3.setRow h r2.cs) (.slice (some ⟨fb, 0, none⟩) n n) fs ∧ At (x3.setRow h r2.cs) b s (i + 2) ∧ Only (fun j => j = b) w (x3.setRow h r2.cs) from
              ⟨(D1.below hx3 D1.lt).only oH (by omega), blk_setRow E2, .inr ⟨fb, by rw [hlen], (D3.below hx3 D3.lt).only oH (by have := unhide HFG; omega)⟩, ((D4 (by trivial)).below hx3 (D4 (by trivial)).lt).only oH (by omega), (D5.trans (Only.of_below (P := fun _ => False) hx3) (fun _ _ q => q.elim)).trans oH (fun j hj q => by omega)⟩)
            have HM4 := hide (((unhide HM3).below hx3 (Nat.le_refl _)).only oH (fun j hj _ e => by omega))
            clear D1 D2 D3 D4 D5 E2 hx3 HD oH HM3
            go_wp2_with (refine wpList_store_row rfl 34 (.tmp 9) (.tmp 52) rfl h r2.cs rfl rfl 34 rk.cs (unhide HZ4) size_rep rfl (unhide HO2) ?_)
            obtain ⟨F1, F2, F3, F4, F5⟩ := unhide HFIN
            exact ⟨⟨k + 1, r2, i + 2, upP fCha a s i, by omega, rfl, unhide HI2, F1, F2, F3, F4, F5, unhide HT2, unhide HM4⟩, by simp [intOf]; omega⟩
          | false =>
            have HTN := hide (show none = O by
              have := unhide HTK
              rw [if_neg (by rw [← hB2]; decide)] at this
              exact this)
            clear hB2 HTK HM2
            obtain ⟨D1, D2, D3, D4, D5⟩ := unhide HD
            have BT := blk_setRow (cells := (Rep.bare 0).cs) D1
            have HL := hide (iload_blk 34 _ BT Tryz.underlying34 rfl size_rep)
            have HZ5 := hide D1
            have HO5 := hide (Rep.one (Rep.bare 0))
            have HBN := hide built_norep
            have HF2 := hide (show Only (fun j => j = b) w (y2.setRow g (Rep.bare 0).cs) from D5.trans (only_setRow (P := fun j => j = g) g _ rfl) (fun j hj q => by omega))
            clear D1 D2 D3 D4 D5 BT HD HISZ HC HK
            go_wp2_with (first | refine wpList_store_row rfl 103 (.tmp 13) (.tmp 42) rfl v p2.cs rfl rfl 103 #[.int .i64 0, .string ⟨#[]⟩, .slice none 0 0] (unhide HZ3) size_prt rfl (unhide HO3) ?_ | refine wpList_buildAs rfl 34 #[] rfl _ rfl (Rep.bare 0).cs (unhide HBN) ?_ | refine wpList_store_row rfl 34 (.tmp 6) (.tmp 46) rfl g (Rep.bare 0).cs rfl rfl 34 #[.int .i64 0, .int .i64 0, .int .i64 0, .slice none 0 0, .int .i64 0, .slice none 0 0, .string ⟨#[]⟩, .string ⟨#[]⟩] (unhide HZ5) size_rep rfl (unhide HO5) ?_)
            (try simp only [Exit.inBlock, Exit.then])
            refine bodyPost_ret (v := .tuple #[.agg (Rep.bare 0).cs, .bool false]) (results_cell2 (p := 6) (q := 7) (ty := 34) rfl _ _ _ ⟨g, 0, none⟩ rfl _ (unhide HL)) rfl ?_
            exact TrP.no (unhide HTN) (unhide HF2)
      · obtain ⟨BR, BK, Bf, hAk, hOk, hEr⟩ := unhide HK
        have hib : i + 9 ≤ s.size := by have h := unhide HISZ; have e : (fVos).b = 9 := rfl; rw [e] at h; omega
        have hC : Calls Tryz.prog 143 #[.agg #[], .pointer (some ⟨b, 0, none⟩)] wr fun e w' => TkP fVos b s i 9 wr.heap.size wr e w' := (voTake_any wr b s i hAk hEr hs hib).mono (fun e w' h9 => by obtain ⟨P9, q1, q2, q3⟩ := h9; exact ⟨_, _, q1, rfl, fun q => (let ⟨_, _, _, _, q5⟩ := q3 q; q5), q2, fun q => vo_own hib q (q3 q)⟩)
        have HC := hide hC
        have hc' : wr.cell? ⟨fb, k, none⟩ = some (.iface 136 (.agg #[])) := hc
        have HBF0 := hide (And.intro BR (And.intro BK (And.intro Bf hOk)))
        clear hC hib BR BK Bf hAk hOk hEr hc
        as_aux_lemma =>
          go_wp2_with fail
          refine (unhide HC).mono ?_
          rintro e z ⟨p2, B2, rfl, hB2, hAz, hOz, hPz⟩
          obtain ⟨BR, BK, Bf, hOk⟩ := unhide HBF0
          obtain ⟨v, hv⟩ : ∃ v, z.heap.size = v := ⟨_, rfl⟩
          obtain ⟨y1, hy1⟩ : ∃ Z, z.alloc (.cells #[.int .i64 0, .string ⟨#[]⟩, .slice none 0 0] 103) = Z := ⟨_, rfl⟩
          have hzk := hOz.size
          have hgk : h < wr.heap.size := BK.lt
          have hgr : g < wr.heap.size := BR.lt
          have hfk : fb < wr.heap.size := Bf.lt
          have hfb : fb ≠ b := by
            intro e
            subst e
            obtain ⟨_, _, _, hAk, _, _⟩ := unhide HK
            exact absurd (blkT Bf (show Blk wr fb _ _ from hAk)) (by decide)
          have hfg : fb ≠ g ∧ fb ≠ h := by
            constructor
            · intro e
              subst e
              exact absurd (blkT Bf BR) (by decide)
            · intro e
              subst e
              exact absurd (blkT Bf BK) (by decide)
          have HFG := hide hfg
          have hb1 : Below v z y1 := by rw [← hy1, ← hv]; exact (Below.refl _ z).alloc (Nat.le_refl _) _
          have hb1' : Below z.heap.size z y1 := by rw [hv]; exact hb1
          have BZ1 : Blk y1 v #[.int .i64 0, .string ⟨#[]⟩, .slice none 0 0] 103 := by rw [← hy1, ← hv]; exact Blk.new z _ _
          have HZ3 := hide BZ1
          have HO3 := hide (Prt.one p2)
          obtain ⟨y2, hy2⟩ : ∃ Z, y1.setRow v p2.cs = Z := ⟨_, rfl⟩
          have oV : Only (fun j => j = v) y1 y2 := by rw [← hy2]; exact only_setRow (P := fun j => j = v) v _ rfl
          have hd : Blk y2 g #[.int .i64 0, .int .i64 0, .int .i64 0, .slice none 0 0, .int .i64 0, .slice none 0 0, .string ⟨#[]⟩, .string ⟨#[]⟩] 34 ∧ Blk y2 h rk.cs 34 ∧ Blk y2 fb (fs.map fv).toArray 101 ∧ (B2 = true → At y2 b s (i + 9)) ∧ Only (fun j => j = b) w y2 := by
            refine ⟨((BR.only hOz (by omega)).below hb1 (by omega)).only oV (by omega), ((BK.only hOz (by omega)).below hb1 (by omega)).only oV (by omega), ((Bf.only hOz hfb).below hb1 (by omega)).only oV (by omega), fun q => ((hAz q).below hb1 (by omega)).only oV (by omega), ?_⟩
            exact ((hOk.trans hOz (fun _ _ q => q)).trans (Only.of_below (P := fun _ => False) hb1') (fun _ _ q => q.elim)).trans oV (fun j hj q => by have := hOk.size; omega)
          have BP2 : Blk y2 v p2.cs 103 := by rw [← hy2]; exact blk_setRow BZ1
          have HRP := hide (show y2.rangeAt v 0 p2.cl from blk_range BP2)
          have HRG := hide (show y2.rangeAt h 0 rk.cl from blk_range hd.2.1)
          have HD := hide hd
          have HM2 := hide (show B2 = true → RM st (h + 1) (exr fVos rk p2).1 (upP fVos a s i) y2 from fun q => ((((unhide HMK).only hOz (fun j hj _ e => by omega)).step (show IsP fVos by simp [IsP]) (hPz q) (by omega))).only (P := fun _ => False) ((Only.of_below (P := fun _ => False) hb1').trans oV (fun j hj q => by omega)) (fun _ _ _ q => q))
          clear BR BK Bf hOk hb1 hb1' BZ1 BP2 hd hAz hOz hPz hfg hfb hzk oV HMK
          cases B2 with
          | true =>
            obtain ⟨r2, hr2⟩ : ∃ Z, (exr fVos rk p2).1 = Z := ⟨_, rfl⟩
            obtain ⟨q2, hq2⟩ : ∃ Z, (exr fVos rk p2).2 = Z := ⟨_, rfl⟩
            have hEX := exr_any fVos (by simp [IsP]) rk p2
            rw [hr2, hq2] at hEX
            have hM3 := unhide HM2 rfl
            rw [hr2] at hM3
            have HM3 := hide hM3
            have HT2 := hide (show takeP (fs.drop (k + 1)) (upP fVos a s i) s (i + 9) = O by
              have := unhide HTK
              rw [if_pos hB2.symm] at this
              exact this)
            clear hM3 HM2 hB2 HTK
            have HEX := hide hEX
            have HI2 := hide (show i + 9 + szF (fs.drop (k + 1)) ≤ s.size by
              have h := unhide HISZ
              have e : (fVos).b = 9 := rfl
              rw [e] at h
              omega)
            have HO2 := hide (Rep.one r2)
            clear hEX hr2 hq2 HISZ HC HK
            go_wp2_with (first | refine wpList_store_row rfl 103 (.tmp 13) (.tmp 42) rfl v p2.cs rfl rfl 103 #[.int .i64 0, .string ⟨#[]⟩, .slice none 0 0] (unhide HZ3) size_prt rfl (unhide HO3) ?_ | refine wpList_load_mid rfl 34 (.tmp 9) rfl h 0 rfl rk.cl _ (unhide HRG) Tryz.underlying34 rfl size_rep ?_ | refine wpList_load_mid rfl 103 (.tmp 13) rfl v 0 rfl p2.cl _ (unhide HRP) Tryz.underlying103 rfl size_prt ?_)
            refine (unhide HEX _).mono ?_
            rintro e x3 ⟨rfl, hx3⟩
            obtain ⟨D1, D2, D3, D4, D5⟩ := unhide HD
            have E2 := D2.below hx3 D2.lt
            have HZ4 := hide E2
            have oH : Only (fun j => j = h) x3 (x3.setRow h r2.cs) := only_setRow (P := fun j => j = h) h _ rfl
            have HFIN := hide (show Blk (x3.setRow h r2.cs) g #[.int .i64 0, .int .i64 0, .int .i64 0, .slice none 0 0, .int .i64 0, .slice none 0 0, .string ⟨#[]⟩, .string ⟨#[]⟩] 34 ∧ Blk (x3.setRow h r2.cs) h r2.cs 34 ∧ FR (x3.setRow h r2.cs) (.slice (some ⟨fb, 0, none⟩) n n) fs ∧ At (x3.setRow h r2.cs) b s (i + 9) ∧ Only (fun j => j = b) w (x3.setRow h r2.cs) from
              ⟨(D1.below hx3 D1.lt).only oH (by omega), blk_setRow E2, .inr ⟨fb, by rw [hlen], (D3.below hx3 D3.lt).only oH (by have := unhide HFG; omega)⟩, ((D4 (by trivial)).below hx3 (D4 (by trivial)).lt).only oH (by omega), (D5.trans (Only.of_below (P := fun _ => False) hx3) (fun _ _ q => q.elim)).trans oH (fun j hj q => by omega)⟩)
            have HM4 := hide (((unhide HM3).below hx3 (Nat.le_refl _)).only oH (fun j hj _ e => by omega))
            clear D1 D2 D3 D4 D5 E2 hx3 HD oH HM3
            go_wp2_with (refine wpList_store_row rfl 34 (.tmp 9) (.tmp 52) rfl h r2.cs rfl rfl 34 rk.cs (unhide HZ4) size_rep rfl (unhide HO2) ?_)
            obtain ⟨F1, F2, F3, F4, F5⟩ := unhide HFIN
            exact ⟨⟨k + 1, r2, i + 9, upP fVos a s i, by omega, rfl, unhide HI2, F1, F2, F3, F4, F5, unhide HT2, unhide HM4⟩, by simp [intOf]; omega⟩
          | false =>
            have HTN := hide (show none = O by
              have := unhide HTK
              rw [if_neg (by rw [← hB2]; decide)] at this
              exact this)
            clear hB2 HTK HM2
            obtain ⟨D1, D2, D3, D4, D5⟩ := unhide HD
            have BT := blk_setRow (cells := (Rep.bare 0).cs) D1
            have HL := hide (iload_blk 34 _ BT Tryz.underlying34 rfl size_rep)
            have HZ5 := hide D1
            have HO5 := hide (Rep.one (Rep.bare 0))
            have HBN := hide built_norep
            have HF2 := hide (show Only (fun j => j = b) w (y2.setRow g (Rep.bare 0).cs) from D5.trans (only_setRow (P := fun j => j = g) g _ rfl) (fun j hj q => by omega))
            clear D1 D2 D3 D4 D5 BT HD HISZ HC HK
            go_wp2_with (first | refine wpList_store_row rfl 103 (.tmp 13) (.tmp 42) rfl v p2.cs rfl rfl 103 #[.int .i64 0, .string ⟨#[]⟩, .slice none 0 0] (unhide HZ3) size_prt rfl (unhide HO3) ?_ | refine wpList_buildAs rfl 34 #[] rfl _ rfl (Rep.bare 0).cs (unhide HBN) ?_ | refine wpList_store_row rfl 34 (.tmp 6) (.tmp 46) rfl g (Rep.bare 0).cs rfl rfl 34 #[.int .i64 0, .int .i64 0, .int .i64 0, .slice none 0 0, .int .i64 0, .slice none 0 0, .string ⟨#[]⟩, .string ⟨#[]⟩] (unhide HZ5) size_rep rfl (unhide HO5) ?_)
            (try simp only [Exit.inBlock, Exit.then])
            refine bodyPost_ret (v := .tuple #[.agg (Rep.bare 0).cs, .bool false]) (results_cell2 (p := 6) (q := 7) (ty := 34) rfl _ _ _ ⟨g, 0, none⟩ rfl _ (unhide HL)) rfl ?_
            exact TrP.no (unhide HTN) (unhide HF2)
      · obtain ⟨BR, BK, Bf, hAk, hOk, hEr⟩ := unhide HK
        have hib : i + 4 ≤ s.size := by have h := unhide HISZ; have e : (fNon).b = 4 := rfl; rw [e] at h; omega
        have hC : Calls Tryz.prog 132 #[.agg #[.int .i64 4, .int .i64 0, .int .i64 4294967295], .pointer (some ⟨b, 0, none⟩)] wr fun e w' => TkP fNon b s i 4 wr.heap.size wr e w' := (ntake_any 4 0 4294967295 (by decide) (by decide) wr b s i hAk hEr hs hib _ rfl).mono (fun e w' h9 => ⟨_, _, h9.1, rfl, fun _ => h9.2.1, h9.2.2, fun _ => rfl⟩)
        have HC := hide hC
        have hc' : wr.cell? ⟨fb, k, none⟩ = some (.iface 126 (.agg #[.int .i64 4, .int .i64 0, .int .i64 4294967295])) := hc
        have HBF0 := hide (And.intro BR (And.intro BK (And.intro Bf hOk)))
        clear hC hib BR BK Bf hAk hOk hEr hc
        as_aux_lemma =>
          go_wp2_with fail
          refine (unhide HC).mono ?_
          rintro e z ⟨p2, B2, rfl, hB2, hAz, hOz, hPz⟩
          obtain ⟨BR, BK, Bf, hOk⟩ := unhide HBF0
          obtain ⟨v, hv⟩ : ∃ v, z.heap.size = v := ⟨_, rfl⟩
          obtain ⟨y1, hy1⟩ : ∃ Z, z.alloc (.cells #[.int .i64 0, .string ⟨#[]⟩, .slice none 0 0] 103) = Z := ⟨_, rfl⟩
          have hzk := hOz.size
          have hgk : h < wr.heap.size := BK.lt
          have hgr : g < wr.heap.size := BR.lt
          have hfk : fb < wr.heap.size := Bf.lt
          have hfb : fb ≠ b := by
            intro e
            subst e
            obtain ⟨_, _, _, hAk, _, _⟩ := unhide HK
            exact absurd (blkT Bf (show Blk wr fb _ _ from hAk)) (by decide)
          have hfg : fb ≠ g ∧ fb ≠ h := by
            constructor
            · intro e
              subst e
              exact absurd (blkT Bf BR) (by decide)
            · intro e
              subst e
              exact absurd (blkT Bf BK) (by decide)
          have HFG := hide hfg
          have hb1 : Below v z y1 := by rw [← hy1, ← hv]; exact (Below.refl _ z).alloc (Nat.le_refl _) _
          have hb1' : Below z.heap.size z y1 := by rw [hv]; exact hb1
          have BZ1 : Blk y1 v #[.int .i64 0, .string ⟨#[]⟩, .slice none 0 0] 103 := by rw [← hy1, ← hv]; exact Blk.new z _ _
          have HZ3 := hide BZ1
          have HO3 := hide (Prt.one p2)
          obtain ⟨y2, hy2⟩ : ∃ Z, y1.setRow v p2.cs = Z := ⟨_, rfl⟩
          have oV : Only (fun j => j = v) y1 y2 := by rw [← hy2]; exact only_setRow (P := fun j => j = v) v _ rfl
          have hd : Blk y2 g #[.int .i64 0, .int .i64 0, .int .i64 0, .slice none 0 0, .int .i64 0, .slice none 0 0, .string ⟨#[]⟩, .string ⟨#[]⟩] 34 ∧ Blk y2 h rk.cs 34 ∧ Blk y2 fb (fs.map fv).toArray 101 ∧ (B2 = true → At y2 b s (i + 4)) ∧ Only (fun j => j = b) w y2 := by
            refine ⟨((BR.only hOz (by omega)).below hb1 (by omega)).only oV (by omega), ((BK.only hOz (by omega)).below hb1 (by omega)).only oV (by omega), ((Bf.only hOz hfb).below hb1 (by omega)).only oV (by omega), fun q => ((hAz q).below hb1 (by omega)).only oV (by omega), ?_⟩
            exact ((hOk.trans hOz (fun _ _ q => q)).trans (Only.of_below (P := fun _ => False) hb1') (fun _ _ q => q.elim)).trans oV (fun j hj q => by have := hOk.size; omega)
          have BP2 : Blk y2 v p2.cs 103 := by rw [← hy2]; exact blk_setRow BZ1
          have HRP := hide (show y2.rangeAt v 0 p2.cl from blk_range BP2)
          have HRG := hide (show y2.rangeAt h 0 rk.cl from blk_range hd.2.1)
          have HD := hide hd
          have HM2 := hide (show B2 = true → RM st (h + 1) (exr fNon rk p2).1 (upP fNon a s i) y2 from fun q => ((((unhide HMK).only hOz (fun j hj _ e => by omega)).step (show IsP fNon by simp [IsP]) (hPz q) (by omega))).only (P := fun _ => False) ((Only.of_below (P := fun _ => False) hb1').trans oV (fun j hj q => by omega)) (fun _ _ _ q => q))
          clear BR BK Bf hOk hb1 hb1' BZ1 BP2 hd hAz hOz hPz hfg hfb hzk oV HMK
          cases B2 with
          | true =>
            obtain ⟨r2, hr2⟩ : ∃ Z, (exr fNon rk p2).1 = Z := ⟨_, rfl⟩
            obtain ⟨q2, hq2⟩ : ∃ Z, (exr fNon rk p2).2 = Z := ⟨_, rfl⟩
            have hEX := exr_any fNon (by simp [IsP]) rk p2
            rw [hr2, hq2] at hEX
            have hM3 := unhide HM2 rfl
            rw [hr2] at hM3
            have HM3 := hide hM3
            have HT2 := hide (show takeP (fs.drop (k + 1)) (upP fNon a s i) s (i + 4) = O by
              have := unhide HTK
              rw [if_pos hB2.symm] at this
              exact this)
            clear hM3 HM2 hB2 HTK
            have HEX := hide hEX
            have HI2 := hide (show i + 4 + szF (fs.drop (k + 1)) ≤ s.size by
              have h := unhide HISZ
              have e : (fNon).b = 4 := rfl
              rw [e] at h
              omega)
            have HO2 := hide (Rep.one r2)
            clear hEX hr2 hq2 HISZ HC HK
            go_wp2_with (first | refine wpList_store_row rfl 103 (.tmp 13) (.tmp 42) rfl v p2.cs rfl rfl 103 #[.int .i64 0, .string ⟨#[]⟩, .slice none 0 0] (unhide HZ3) size_prt rfl (unhide HO3) ?_ | refine wpList_load_mid rfl 34 (.tmp 9) rfl h 0 rfl rk.cl _ (unhide HRG) Tryz.underlying34 rfl size_rep ?_ | refine wpList_load_mid rfl 103 (.tmp 13) rfl v 0 rfl p2.cl _ (unhide HRP) Tryz.underlying103 rfl size_prt ?_)
            refine (unhide HEX _).mono ?_
            rintro e x3 ⟨rfl, hx3⟩
            obtain ⟨D1, D2, D3, D4, D5⟩ := unhide HD
            have E2 := D2.below hx3 D2.lt
            have HZ4 := hide E2
            have oH : Only (fun j => j = h) x3 (x3.setRow h r2.cs) := only_setRow (P := fun j => j = h) h _ rfl
            have HFIN := hide (show Blk (x3.setRow h r2.cs) g #[.int .i64 0, .int .i64 0, .int .i64 0, .slice none 0 0, .int .i64 0, .slice none 0 0, .string ⟨#[]⟩, .string ⟨#[]⟩] 34 ∧ Blk (x3.setRow h r2.cs) h r2.cs 34 ∧ FR (x3.setRow h r2.cs) (.slice (some ⟨fb, 0, none⟩) n n) fs ∧ At (x3.setRow h r2.cs) b s (i + 4) ∧ Only (fun j => j = b) w (x3.setRow h r2.cs) from
              ⟨(D1.below hx3 D1.lt).only oH (by omega), blk_setRow E2, .inr ⟨fb, by rw [hlen], (D3.below hx3 D3.lt).only oH (by have := unhide HFG; omega)⟩, ((D4 (by trivial)).below hx3 (D4 (by trivial)).lt).only oH (by omega), (D5.trans (Only.of_below (P := fun _ => False) hx3) (fun _ _ q => q.elim)).trans oH (fun j hj q => by omega)⟩)
            have HM4 := hide (((unhide HM3).below hx3 (Nat.le_refl _)).only oH (fun j hj _ e => by omega))
            clear D1 D2 D3 D4 D5 E2 hx3 HD oH HM3
            go_wp2_with (refine wpList_store_row rfl 34 (.tmp 9) (.tmp 52) rfl h r2.cs rfl rfl 34 rk.cs (unhide HZ4) size_rep rfl (unhide HO2) ?_)
            obtain ⟨F1, F2, F3, F4, F5⟩ := unhide HFIN
            exact ⟨⟨k + 1, r2, i + 4, upP fNon a s i, by omega, rfl, unhide HI2, F1, F2, F3, F4, F5, unhide HT2, unhide HM4⟩, by simp [intOf]; omega⟩
          | false =>
            have HTN := hide (show none = O by
              have := unhide HTK
              rw [if_neg (by rw [← hB2]; decide)] at this
              exact this)
            clear hB2 HTK HM2
            obtain ⟨D1, D2, D3, D4, D5⟩ := unhide HD
            have BT := blk_setRow (cells := (Rep.bare 0).cs) D1
            have HL := hide (iload_blk 34 _ BT Tryz.underlying34 rfl size_rep)
            have HZ5 := hide D1
            have HO5 := hide (Rep.one (Rep.bare 0))
            have HBN := hide built_norep
            have HF2 := hide (show Only (fun j => j = b) w (y2.setRow g (Rep.bare 0).cs) from D5.trans (only_setRow (P := fun j => j = g) g _ rfl) (fun j hj q => by omega))
            clear D1 D2 D3 D4 D5 BT HD HISZ HC HK
            go_wp2_with (first | refine wpList_store_row rfl 103 (.tmp 13) (.tmp 42) rfl v p2.cs rfl rfl 103 #[.int .i64 0, .string ⟨#[]⟩, .slice none 0 0] (unhide HZ3) size_prt rfl (unhide HO3) ?_ | refine wpList_buildAs rfl 34 #[] rfl _ rfl (Rep.bare 0).cs (unhide HBN) ?_ | refine wpList_store_row rfl 34 (.tmp 6) (.tmp 46) rfl g (Rep.bare 0).cs rfl rfl 34 #[.int .i64 0, .int .i64 0, .int .i64 0, .slice none 0 0, .int .i64 0, .slice none 0 0, .string ⟨#[]⟩, .string ⟨#[]⟩] (unhide HZ5) size_rep rfl (unhide HO5) ?_)
            (try simp only [Exit.inBlock, Exit.then])
            refine bodyPost_ret (v := .tuple #[.agg (Rep.bare 0).cs, .bool false]) (results_cell2 (p := 6) (q := 7) (ty := 34) rfl _ _ _ ⟨g, 0, none⟩ rfl _ (unhide HL)) rfl ?_
            exact TrP.no (unhide HTN) (unhide HF2)
      · obtain ⟨BR, BK, Bf, hAk, hOk, hEr⟩ := unhide HK
        have hib : i + 8 ≤ s.size := by have h := unhide HISZ; have e : (fPla).b = 8 := rfl; rw [e] at h; omega
        have hC : Calls Tryz.prog 139 #[.agg #[], .pointer (some ⟨b, 0, none⟩)] wr fun e w' => TkP fPla b s i 8 wr.heap.size wr e w' := (plTake_any wr b s i hAk hEr hs hib).mono (fun e w' h9 => by obtain ⟨p9, c9, q1, q2, q3, q4⟩ := h9; exact ⟨_, _, q1, rfl, fun _ => q3, q4, fun _ => (show OwnL _ _ p9 8 c9 (tkB s i 8) from ⟨(tkB_len hib).symm, q2⟩)⟩)
        have HC := hide hC
        have hc' : wr.cell? ⟨fb, k, none⟩ = some (.iface 135 (.agg #[])) := hc
        have HBF0 := hide (And.intro BR (And.intro BK (And.intro Bf hOk)))
        clear hC hib BR BK Bf hAk hOk hEr hc
        as_aux_lemma =>
          go_wp2_with fail
          refine (unhide HC).mono ?_
          rintro e z ⟨p2, B2, rfl, hB2, hAz, hOz, hPz⟩
          obtain ⟨BR, BK, Bf, hOk⟩ := unhide HBF0
          obtain ⟨v, hv⟩ : ∃ v, z.heap.size = v := ⟨_, rfl⟩
          obtain ⟨y1, hy1⟩ : ∃ Z, z.alloc (.cells #[.int .i64 0, .string ⟨#[]⟩, .slice none 0 0] 103) = Z := ⟨_, rfl⟩
          have hzk := hOz.size
          have hgk : h < wr.heap.size := BK.lt
          have hgr : g < wr.heap.size := BR.lt
          have hfk : fb < wr.heap.size := Bf.lt
          have hfb : fb ≠ b := by
            intro e
            subst e
            obtain ⟨_, _, _, hAk, _, _⟩ := unhide HK
            exact absurd (blkT Bf (show Blk wr fb _ _ from hAk)) (by decide)
          have hfg : fb ≠ g ∧ fb ≠ h := by
            constructor
            · intro e
              subst e
              exact absurd (blkT Bf BR) (by decide)
            · intro e
              subst e
              exact absurd (blkT Bf BK) (by decide)
          have HFG := hide hfg
          have hb1 : Below v z y1 := by rw [← hy1, ← hv]; exact (Below.refl _ z).alloc (Nat.le_refl _) _
          have hb1' : Below z.heap.size z y1 := by rw [hv]; exact hb1
          have BZ1 : Blk y1 v #[.int .i64 0, .string ⟨#[]⟩, .slice none 0 0] 103 := by rw [← hy1, ← hv]; exact Blk.new z _ _
          have HZ3 := hide BZ1
          have HO3 := hide (Prt.one p2)
          obtain ⟨y2, hy2⟩ : ∃ Z, y1.setRow v p2.cs = Z := ⟨_, rfl⟩
          have oV : Only (fun j => j = v) y1 y2 := by rw [← hy2]; exact only_setRow (P := fun j => j = v) v _ rfl
          have hd : Blk y2 g #[.int .i64 0, .int .i64 0, .int .i64 0, .slice none 0 0, .int .i64 0, .slice none 0 0, .string ⟨#[]⟩, .string ⟨#[]⟩] 34 ∧ Blk y2 h rk.cs 34 ∧ Blk y2 fb (fs.map fv).toArray 101 ∧ (B2 = true → At y2 b s (i + 8)) ∧ Only (fun j => j = b) w y2 := by
            refine ⟨((BR.only hOz (by omega)).below hb1 (by omega)).only oV (by omega), ((BK.only hOz (by omega)).below hb1 (by omega)).only oV (by omega), ((Bf.only hOz hfb).below hb1 (by omega)).only oV (by omega), fun q => ((hAz q).below hb1 (by omega)).only oV (by omega), ?_⟩
            exact ((hOk.trans hOz (fun _ _ q => q)).trans (Only.of_below (P := fun _ => False) hb1') (fun _ _ q => q.elim)).trans oV (fun j hj q => by have := hOk.size; omega)
          have BP2 : Blk y2 v p2.cs 103 := by rw [← hy2]; exact blk_setRow BZ1
          have HRP := hide (show y2.rangeAt v 0 p2.cl from blk_range BP2)
          have HRG := hide (show y2.rangeAt h 0 rk.cl from blk_range hd.2.1)
          have HD := hide hd
          have HM2 := hide (show B2 = true → RM st (h + 1) (exr fPla rk p2).1 (upP fPla a s i) y2 from fun q => ((((unhide HMK).only hOz (fun j hj _ e => by omega)).step (show IsP fPla by simp [IsP]) (hPz q) (by omega))).only (P := fun _ => False) ((Only.of_below (P := fun _ => False) hb1').trans oV (fun j hj q => by omega)) (fun _ _ _ q => q))
          clear BR BK Bf hOk hb1 hb1' BZ1 BP2 hd hAz hOz hPz hfg hfb hzk oV HMK
          cases B2 with
          | true =>
            obtain ⟨r2, hr2⟩ : ∃ Z, (exr fPla rk p2).1 = Z := ⟨_, rfl⟩
            obtain ⟨q2, hq2⟩ : ∃ Z, (exr fPla rk p2).2 = Z := ⟨_, rfl⟩
            have hEX := exr_any fPla (by simp [IsP]) rk p2
            rw [hr2, hq2] at hEX
            have hM3 := unhide HM2 rfl
            rw [hr2] at hM3
            have HM3 := hide hM3
            have HT2 := hide (show takeP (fs.drop (k + 1)) (upP fPla a s i) s (i + 8) = O by
              have := unhide HTK
              rw [if_pos hB2.symm] at this
              exact this)
            clear hM3 HM2 hB2 HTK
            have HEX := hide hEX
            have HI2 := hide (show i + 8 + szF (fs.drop (k + 1)) ≤ s.size by
              have h := unhide HISZ
              have e : (fPla).b = 8 := rfl
              rw [e] at h
              omega)
            have HO2 := hide (Rep.one r2)
            clear hEX hr2 hq2 HISZ HC HK
            go_wp2_with (first | refine wpList_store_row rfl 103 (.tmp 13) (.tmp 42) rfl v p2.cs rfl rfl 103 #[.int .i64 0, .string ⟨#[]⟩, .slice none 0 0] (unhide HZ3) size_prt rfl (unhide HO3) ?_ | refine wpList_load_mid rfl 34 (.tmp 9) rfl h 0 rfl rk.cl _ (unhide HRG) Tryz.underlying34 rfl size_rep ?_ | refine wpList_load_mid rfl 103 (.tmp 13) rfl v 0 rfl p2.cl _ (unhide HRP) Tryz.underlying103 rfl size_prt ?_)
            refine (unhide HEX _).mono ?_
            rintro e x3 ⟨rfl, hx3⟩
            obtain ⟨D1, D2, D3, D4, D5⟩ := unhide HD
            have E2 := D2.below hx3 D2.lt
            have HZ4 := hide E2
            have oH : Only (fun j => j = h) x3 (x3.setRow h r2.cs) := only_setRow (P := fun j => j = h) h _ rfl
            have HFIN := hide (show Blk (x3.setRow h r2.cs) g #[.int .i64 0, .int .i64 0, .int .i64 0, .slice none 0 0, .int .i64 0, .slice none 0 0, .string ⟨#[]⟩, .string ⟨#[]⟩] 34 ∧ Blk (x3.setRow h r2.cs) h r2.cs 34 ∧ FR (x3.setRow h r2.cs) (.slice (some ⟨fb, 0, none⟩) n n) fs ∧ At (x3.setRow h r2.cs) b s (i + 8) ∧ Only (fun j => j = b) w (x3.setRow h r2.cs) from
              ⟨(D1.below hx3 D1.lt).only oH (by omega), blk_setRow E2, .inr ⟨fb, by rw [hlen], (D3.below hx3 D3.lt).only oH (by have := unhide HFG; omega)⟩, ((D4 (by trivial)).below hx3 (D4 (by trivial)).lt).only oH (by omega), (D5.trans (Only.of_below (P := fun _ => False) hx3) (fun _ _ q => q.elim)).trans oH (fun j hj q => by omega)⟩)
            have HM4 := hide (((unhide HM3).below hx3 (Nat.le_refl _)).only oH (fun j hj _ e => by omega))
            clear D1 D2 D3 D4 D5 E2 hx3 HD oH HM3
            go_wp2_with (refine wpList_store_row rfl 34 (.tmp 9) (.tmp 52) rfl h r2.cs rfl rfl 34 rk.cs (unhide HZ4) size_rep rfl (unhide HO2) ?_)
            obtain ⟨F1, F2, F3, F4, F5⟩ := unhide HFIN
            exact ⟨⟨k + 1, r2, i + 8, upP fPla a s i, by omega, rfl, unhide HI2, F1, F2, F3, F4, F5, unhide HT2, unhide HM4⟩, by simp [intOf]; omega⟩
          | false =>
            have HTN := hide (show none = O by
              have := unhide HTK
              rw [if_neg (by rw [← hB2]; decide)] at this
              exact this)
            clear hB2 HTK HM2
            obtain ⟨D1, D2, D3, D4, D5⟩ := unhide HD
            have BT := blk_setRow (cells := (Rep.bare 0).cs) D1
            have HL := hide (iload_blk 34 _ BT Tryz.underlying34 rfl size_rep)
            have HZ5 := hide D1
            have HO5 := hide (Rep.one (Rep.bare 0))
            have HBN := hide built_norep
            have HF2 := hide (show Only (fun j => j = b) w (y2.setRow g (Rep.bare 0).cs) from D5.trans (only_setRow (P := fun j => j = g) g _ rfl) (fun j hj q => by omega))
            clear D1 D2 D3 D4 D5 BT HD HISZ HC HK
            go_wp2_with (first | refine wpList_store_row rfl 103 (.tmp 13) (.tmp 42) rfl v p2.cs rfl rfl 103 #[.int .i64 0, .string ⟨#[]⟩, .slice none 0 0] (unhide HZ3) size_prt rfl (unhide HO3) ?_ | refine wpList_buildAs rfl 34 #[] rfl _ rfl (Rep.bare 0).cs (unhide HBN) ?_ | refine wpList_store_row rfl 34 (.tmp 6) (.tmp 46) rfl g (Rep.bare 0).cs rfl rfl 34 #[.int .i64 0, .int .i64 0, .int .i64 0, .slice none 0 0, .int .i64 0, .slice none 0 0, .string ⟨#[]⟩, .string ⟨#[]⟩] (unhide HZ5) size_rep rfl (unhide HO5) ?_)
            (try simp only [Exit.inBlock, Exit.then])
            refine bodyPost_ret (v := .tuple #[.agg (Rep.bare 0).cs, .bool false]) (results_cell2 (p := 6) (q := 7) (ty := 34) rfl _ _ _ ⟨g, 0, none⟩ rfl _ (unhide HL)) rfl ?_
            exact TrP.no (unhide HTN) (unhide HF2)
      · obtain ⟨BR, BK, Bf, hAk, hOk, hEr⟩ := unhide HK
        have hib : i + 48 ≤ s.size := by have h := unhide HISZ; have e : (fWra).b = 48 := rfl; rw [e] at h; omega
        have hC : Calls Tryz.prog 136 #[.agg #[.int .i64 48], .pointer (some ⟨b, 0, none⟩)] wr fun e w' => TkP fWra b s i 48 wr.heap.size wr e w' := (ttake_any 48 wr b s i hAk hEr hs hib).mono (fun e w' h9 => ⟨_, _, h9.1, rfl, fun _ => h9.2.1, h9.2.2, fun _ => rfl⟩)
        have HC := hide hC
        have hc' : wr.cell? ⟨fb, k, none⟩ = some (.iface 131 (.agg #[.int .i64 48])) := hc
        have HBF0 := hide (And.intro BR (And.intro BK (And.intro Bf hOk)))
        clear hC hib BR BK Bf hAk hOk hEr hc
        as_aux_lemma =>
          go_wp2_with fail
          refine (unhide HC).mono ?_
          rintro e z ⟨p2, B2, rfl, hB2, hAz, hOz, hPz⟩
          obtain ⟨BR, BK, Bf, hOk⟩ := unhide HBF0
          obtain ⟨v, hv⟩ : ∃ v, z.heap.size = v := ⟨_, rfl⟩
          obtain ⟨y1, hy1⟩ : ∃ Z, z.alloc (.cells #[.int .i64 0, .string ⟨#[]⟩, .slice none 0 0] 103) = Z := ⟨_, rfl⟩
          have hzk := hOz.size
          have hgk : h < wr.heap.size := BK.lt
          have hgr : g < wr.heap.size := BR.lt
          have hfk : fb < wr.heap.size := Bf.lt
          have hfb : fb ≠ b := by
            intro e
            subst e
            obtain ⟨_, _, _, hAk, _, _⟩ := unhide HK
            exact absurd (blkT Bf (show Blk wr fb _ _ from hAk)) (by decide)
          have hfg : fb ≠ g ∧ fb ≠ h := by
            constructor
            · intro e
              subst e
              exact absurd (blkT Bf BR) (by decide)
            · intro e
              subst e
              exact absurd (blkT Bf BK) (by decide)
          have HFG := hide hfg
          have hb1 : Below v z y1 := by rw [← hy1, ← hv]; exact (Below.refl _ z).alloc (Nat.le_refl _) _
          have hb1' : Below z.heap.size z y1 := by rw [hv]; exact hb1
          have BZ1 : Blk y1 v #[.int .i64 0, .string ⟨#[]⟩, .slice none 0 0] 103 := by rw [← hy1, ← hv]; exact Blk.new z _ _
          have HZ3 := hide BZ1
          have HO3 := hide (Prt.one p2)
          obtain ⟨y2, hy2⟩ : ∃ Z, y1.setRow v p2.cs = Z := ⟨_, rfl⟩
          have oV : Only (fun j => j = v) y1 y2 := by rw [← hy2]; exact only_setRow (P := fun j => j = v) v _ rfl
          have hd : Blk y2 g #[.int .i64 0, .int .i64 0, .int .i64 0, .slice none 0 0, .int .i64 0, .slice none 0 0, .string ⟨#[]⟩, .string ⟨#[]⟩] 34 ∧ Blk y2 h rk.cs 34 ∧ Blk y2 fb (fs.map fv).toArray 101 ∧ (B2 = true → At y2 b s (i + 48)) ∧ Only (fun j => j = b) w y2 := by
            refine ⟨((BR.only hOz (by omega)).below hb1 (by omega)).only oV (by omega), ((BK.only hOz (by omega)).below hb1 (by omega)).only oV (by omega), ((Bf.only hOz hfb).below hb1 (by omega)).only oV (by omega), fun q => ((hAz q).below hb1 (by omega)).only oV (by omega), ?_⟩
            exact ((hOk.trans hOz (fun _ _ q => q)).trans (Only.of_below (P := fun _ => False) hb1') (fun _ _ q => q.elim)).trans oV (fun j hj q => by have := hOk.size; omega)
          have BP2 : Blk y2 v p2.cs 103 := by rw [← hy2]; exact blk_setRow BZ1
          have HRP := hide (show y2.rangeAt v 0 p2.cl from blk_range BP2)
          have HRG := hide (show y2.rangeAt h 0 rk.cl from blk_range hd.2.1)
          have HD := hide hd
          have HM2 := hide (show B2 = true → RM st (h + 1) (exr fWra rk p2).1 (upP fWra a s i) y2 from fun q => ((((unhide HMK).only hOz (fun j hj _ e => by omega)).step (show IsP fWra by simp [IsP]) (hPz q) (by omega))).only (P := fun _ => False) ((Only.of_below (P := fun _ => False) hb1').trans oV (fun j hj q => by omega)) (fun _ _ _ q => q))
          clear BR BK Bf hOk hb1 hb1' BZ1 BP2 hd hAz hOz hPz hfg hfb hzk oV HMK
          cases B2 with
          | true =>
            obtain ⟨r2, hr2⟩ : ∃ Z, (exr fWra rk p2).1 = Z := ⟨_, rfl⟩
            obtain ⟨q2, hq2⟩ : ∃ Z, (exr fWra rk p2).2 = Z := ⟨_, rfl⟩
            have hEX := exr_any fWra (by simp [IsP]) rk p2
            rw [hr2, hq2] at hEX
            have hM3 := unhide HM2 rfl
            rw [hr2] at hM3
            have HM3 := hide hM3
            have HT2 := hide (show takeP (fs.drop (k + 1)) (upP fWra a s i) s (i + 48) = O by
              have := unhide HTK
              rw [if_pos hB2.symm] at this
              exact this)
            clear hM3 HM2 hB2 HTK
            have HEX := hide hEX
            have HI2 := hide (show i + 48 + szF (fs.drop (k + 1)) ≤ s.size by
              have h := unhide HISZ
              have e : (fWra).b = 48 := rfl
              rw [e] at h
              omega)
            have HO2 := hide (Rep.one r2)
            clear hEX hr2 hq2 HISZ HC HK
            go_wp2_with (first | refine wpList_store_row rfl 103 (.tmp 13) (.tmp 42) rfl v p2.cs rfl rfl 103 #[.int .i64 0, .string ⟨#[]⟩, .slice none 0 0] (unhide HZ3) size_prt rfl (unhide HO3) ?_ | refine wpList_load_mid rfl 34 (.tmp 9) rfl h 0 rfl rk.cl _ (unhide HRG) Tryz.underlying34 rfl size_rep ?_ | refine wpList_load_mid rfl 103 (.tmp 13) rfl v 0 rfl p2.cl _ (unhide HRP) Tryz.underlying103 rfl size_prt ?_)
            refine (unhide HEX _).mono ?_
            rintro e x3 ⟨rfl, hx3⟩
            obtain ⟨D1, D2, D3, D4, D5⟩ := unhide HD
            have E2 := D2.below hx3 D2.lt
            have HZ4 := hide E2
            have oH : Only (fun j => j = h) x3 (x3.setRow h r2.cs) := only_setRow (P := fun j => j = h) h _ rfl
            have HFIN := hide (show Blk (x3.setRow h r2.cs) g #[.int .i64 0, .int .i64 0, .int .i64 0, .slice none 0 0, .int .i64 0, .slice none 0 0, .string ⟨#[]⟩, .string ⟨#[]⟩] 34 ∧ Blk (x3.setRow h r2.cs) h r2.cs 34 ∧ FR (x3.setRow h r2.cs) (.slice (some ⟨fb, 0, none⟩) n n) fs ∧ At (x3.setRow h r2.cs) b s (i + 48) ∧ Only (fun j => j = b) w (x3.setRow h r2.cs) from
              ⟨(D1.below hx3 D1.lt).only oH (by omega), blk_setRow E2, .inr ⟨fb, by rw [hlen], (D3.below hx3 D3.lt).only oH (by have := unhide HFG; omega)⟩, ((D4 (by trivial)).below hx3 (D4 (by trivial)).lt).only oH (by omega), (D5.trans (Only.of_below (P := fun _ => False) hx3) (fun _ _ q => q.elim)).trans oH (fun j hj q => by omega)⟩)
            have HM4 := hide (((unhide HM3).below hx3 (Nat.le_refl _)).only oH (fun j hj _ e => by omega))
            clear D1 D2 D3 D4 D5 E2 hx3 HD oH HM3
            go_wp2_with (refine wpList_store_row rfl 34 (.tmp 9) (.tmp 52) rfl h r2.cs rfl rfl 34 rk.cs (unhide HZ4) size_rep rfl (unhide HO2) ?_)
            obtain ⟨F1, F2, F3, F4, F5⟩ := unhide HFIN
            exact ⟨⟨k + 1, r2, i + 48, upP fWra a s i, by omega, rfl, unhide HI2, F1, F2, F3, F4, F5, unhide HT2, unhide HM4⟩, by simp [intOf]; omega⟩
          | false =>
            have HTN := hide (show none = O by
              have := unhide HTK
              rw [if_neg (by rw [← hB2]; decide)] at this
              exact this)
            clear hB2 HTK HM2
            obtain ⟨D1, D2, D3, D4, D5⟩ := unhide HD
            have BT := blk_setRow (cells := (Rep.bare 0).cs) D1
            have HL := hide (iload_blk 34 _ BT Tryz.underlying34 rfl size_rep)
            have HZ5 := hide D1
            have HO5 := hide (Rep.one (Rep.bare 0))
            have HBN := hide built_norep
            have HF2 := hide (show Only (fun j => j = b) w (y2.setRow g (Rep.bare 0).cs) from D5.trans (only_setRow (P := fun j => j = g) g _ rfl) (fun j hj q => by omega))
            clear D1 D2 D3 D4 D5 BT HD HISZ HC HK
            go_wp2_with (first | refine wpList_store_row rfl 103 (.tmp 13) (.tmp 42) rfl v p2.cs rfl rfl 103 #[.int .i64 0, .string ⟨#[]⟩, .slice none 0 0] (unhide HZ3) size_prt rfl (unhide HO3) ?_ | refine wpList_buildAs rfl 34 #[] rfl _ rfl (Rep.bare 0).cs (unhide HBN) ?_ | refine wpList_store_row rfl 34 (.tmp 6) (.tmp 46) rfl g (Rep.bare 0).cs rfl rfl 34 #[.int .i64 0, .int .i64 0, .int .i64 0, .slice none 0 0, .int .i64 0, .slice none 0 0, .string ⟨#[]⟩, .string ⟨#[]⟩] (unhide HZ5) size_rep rfl (unhide HO5) ?_)
            (try simp only [Exit.inBlock, Exit.then])
            refine bodyPost_ret (v := .tuple #[.agg (Rep.bare 0).cs, .bool false]) (results_cell2 (p := 6) (q := 7) (ty := 34) rfl _ _ _ ⟨g, 0, none⟩ rfl _ (unhide HL)) rfl ?_
            exact TrP.no (unhide HTN) (unhide HF2)
      · obtain ⟨BR, BK, Bf, hAk, hOk, hEr⟩ := unhide HK
        have hib : i + 256 ≤ s.size := by have h := unhide HISZ; have e : (fDat).b = 256 := rfl; rw [e] at h; omega
        have hC : Calls Tryz.prog 136 #[.agg #[.int .i64 256], .pointer (some ⟨b, 0, none⟩)] wr fun e w' => TkP fDat b s i 256 wr.heap.size wr e w' := (ttake_any 256 wr b s i hAk hEr hs hib).mono (fun e w' h9 => ⟨_, _, h9.1, rfl, fun _ => h9.2.1, h9.2.2, fun _ => rfl⟩)
        have HC := hide hC
        have hc' : wr.cell? ⟨fb, k, none⟩ = some (.iface 133 (.agg #[.int .i64 256])) := hc
        have HBF0 := hide (And.intro BR (And.intro BK (And.intro Bf hOk)))
        clear hC hib BR BK Bf hAk hOk hEr hc
        as_aux_lemma =>
          go_wp2_with fail
          refine (unhide HC).mono ?_
          rintro e z ⟨p2, B2, rfl, hB2, hAz, hOz, hPz⟩
          obtain ⟨BR, BK, Bf, hOk⟩ := unhide HBF0
          obtain ⟨v, hv⟩ : ∃ v, z.heap.size = v := ⟨_, rfl⟩
          obtain ⟨y1, hy1⟩ : ∃ Z, z.alloc (.cells #[.int .i64 0, .string ⟨#[]⟩, .slice none 0 0] 103) = Z := ⟨_, rfl⟩
          have hzk := hOz.size
          have hgk : h < wr.heap.size := BK.lt
          have hgr : g < wr.heap.size := BR.lt
          have hfk : fb < wr.heap.size := Bf.lt
          have hfb : fb ≠ b := by
            intro e
            subst e
            obtain ⟨_, _, _, hAk, _, _⟩ := unhide HK
            exact absurd (blkT Bf (show Blk wr fb _ _ from hAk)) (by decide)
          have hfg : fb ≠ g ∧ fb ≠ h := by
            constructor
            · intro e
              subst e
              exact absurd (blkT Bf BR) (by decide)
            · intro e
              subst e
              exact absurd (blkT Bf BK) (by decide)
          have HFG := hide hfg
          have hb1 : Below v z y1 := by rw [← hy1, ← hv]; exact (Below.refl _ z).alloc (Nat.le_refl _) _
          have hb1' : Below z.heap.size z y1 := by rw [hv]; exact hb1
          have BZ1 : Blk y1 v #[.int .i64 0, .string ⟨#[]⟩, .slice none 0 0] 103 := by rw [← hy1, ← hv]; exact Blk.new z _ _
          have HZ3 := hide BZ1
          have HO3 := hide (Prt.one p2)
          obtain ⟨y2, hy2⟩ : ∃ Z, y1.setRow v p2.cs = Z := ⟨_, rfl⟩
          have oV : Only (fun j => j = v) y1 y2 := by rw [← hy2]; exact only_setRow (P := fun j => j = v) v _ rfl
          have hd : Blk y2 g #[.int .i64 0, .int .i64 0, .int .i64 0, .slice none 0 0, .int .i64 0, .slice none 0 0, .string ⟨#[]⟩, .string ⟨#[]⟩] 34 ∧ Blk y2 h rk.cs 34 ∧ Blk y2 fb (fs.map fv).toArray 101 ∧ (B2 = true → At y2 b s (i + 256)) ∧ Only (fun j => j = b) w y2 := by
            refine ⟨((BR.only hOz (by omega)).below hb1 (by omega)).only oV (by omega), ((BK.only hOz (by omega)).below hb1 (by omega)).only oV (by omega), ((Bf.only hOz hfb).below hb1 (by omega)).only oV (by omega), fun q => ((hAz q).below hb1 (by omega)).only oV (by omega), ?_⟩
            exact ((hOk.trans hOz (fun _ _ q => q)).trans (Only.of_below (P := fun _ => False) hb1') (fun _ _ q => q.elim)).trans oV (fun j hj q => by have := hOk.size; omega)
          have BP2 : Blk y2 v p2.cs 103 := by rw [← hy2]; exact blk_setRow BZ1
          have HRP := hide (show y2.rangeAt v 0 p2.cl from blk_range BP2)
          have HRG := hide (show y2.rangeAt h 0 rk.cl from blk_range hd.2.1)
          have HD := hide hd
          have HM2 := hide (show B2 = true → RM st (h + 1) (exr fDat rk p2).1 (upP fDat a s i) y2 from fun q => ((((unhide HMK).only hOz (fun j hj _ e => by omega)).step (show IsP fDat by simp [IsP]) (hPz q) (by omega))).only (P := fun _ => False) ((Only.of_below (P := fun _ => False) hb1').trans oV (fun j hj q => by omega)) (fun _ _ _ q => q))
          clear BR BK Bf hOk hb1 hb1' BZ1 BP2 hd hAz hOz hPz hfg hfb hzk oV HMK
          cases B2 with
          | true =>
            obtain ⟨r2, hr2⟩ : ∃ Z, (exr fDat rk p2).1 = Z := ⟨_, rfl⟩
            obtain ⟨q2, hq2⟩ : ∃ Z, (exr fDat rk p2).2 = Z := ⟨_, rfl⟩
            have hEX := exr_any fDat (by simp [IsP]) rk p2
            rw [hr2, hq2] at hEX
            have hM3 := unhide HM2 rfl
            rw [hr2] at hM3
            have HM3 := hide hM3
            have HT2 := hide (show takeP (fs.drop (k + 1)) (upP fDat a s i) s (i + 256) = O by
              have := unhide HTK
              rw [if_pos hB2.symm] at this
              exact this)
            clear hM3 HM2 hB2 HTK
            have HEX := hide hEX
            have HI2 := hide (show i + 256 + szF (fs.drop (k + 1)) ≤ s.size by
              have h := unhide HISZ
              have e : (fDat).b = 256 := rfl
              rw [e] at h
              omega)
            have HO2 := hide (Rep.one r2)
            clear hEX hr2 hq2 HISZ HC HK
            go_wp2_with (first | refine wpList_store_row rfl 103 (.tmp 13) (.tmp 42) rfl v p2.cs rfl rfl 103 #[.int .i64 0, .string ⟨#[]⟩, .slice none 0 0] (unhide HZ3) size_prt rfl (unhide HO3) ?_ | refine wpList_load_mid rfl 34 (.tmp 9) rfl h 0 rfl rk.cl _ (unhide HRG) Tryz.underlying34 rfl size_rep ?_ | refine wpList_load_mid rfl 103 (.tmp 13) rfl v 0 rfl p2.cl _ (unhide HRP) Tryz.underlying103 rfl size_prt ?_)
            refine (unhide HEX _).mono ?_
            rintro e x3 ⟨rfl, hx3⟩
            obtain ⟨D1, D2, D3, D4, D5⟩ := unhide HD
            have E2 := D2.below hx3 D2.lt
            have HZ4 := hide E2
            have oH : Only (fun j => j = h) x3 (x3.setRow h r2.cs) := only_setRow (P := fun j => j = h) h _ rfl
            have HFIN := hide (show Blk (x3.setRow h r2.cs) g #[.int .i64 0, .int .i64 0, .int .i64 0, .slice none 0 0, .int .i64 0, .slice none 0 0, .string ⟨#[]⟩, .string ⟨#[]⟩] 34 ∧ Blk (x3.setRow h r2.cs) h r2.cs 34 ∧ FR (x3.setRow h r2.cs) (.slice (some ⟨fb, 0, none⟩) n n) fs ∧ At (x3.setRow h r2.cs) b s (i + 256) ∧ Only (fun j => j = b) w (x3.setRow h r2.cs) from
              ⟨(D1.below hx3 D1.lt).only oH (by omega), blk_setRow E2, .inr ⟨fb, by rw [hlen], (D3.below hx3 D3.lt).only oH (by have := unhide HFG; omega)⟩, ((D4 (by trivial)).below hx3 (D4 (by trivial)).lt).only oH (by omega), (D5.trans (Only.of_below (P := fun _ => False) hx3) (fun _ _ q => q.elim)).trans oH (fun j hj q => by omega)⟩)
            have HM4 := hide (((unhide HM3).below hx3 (Nat.le_refl _)).only oH (fun j hj _ e => by omega))
            clear D1 D2 D3 D4 D5 E2 hx3 HD oH HM3
            go_wp2_with (refine wpList_store_row rfl 34 (.tmp 9) (.tmp 52) rfl h r2.cs rfl rfl 34 rk.cs (unhide HZ4) size_rep rfl (unhide HO2) ?_)
            obtain ⟨F1, F2, F3, F4, F5⟩ := unhide HFIN
            exact ⟨⟨k + 1, r2, i + 256, upP fDat a s i, by omega, rfl, unhide HI2, F1, F2, F3, F4, F5, unhide HT2, unhide HM4⟩, by simp [intOf]; omega⟩
          | false =>
            have HTN := hide (show none = O by
              have := unhide HTK
              rw [if_neg (by rw [← hB2]; decide)] at this
              exact this)
            clear hB2 HTK HM2
            obtain ⟨D1, D2, D3, D4, D5⟩ := unhide HD
            have BT := blk_setRow (cells := (Rep.bare 0).cs) D1
            have HL := hide (iload_blk 34 _ BT Tryz.underlying34 rfl size_rep)
            have HZ5 := hide D1
            have HO5 := hide (Rep.one (Rep.bare 0))
            have HBN := hide built_norep
            have HF2 := hide (show Only (fun j => j = b) w (y2.setRow g (Rep.bare 0).cs) from D5.trans (only_setRow (P := fun j => j = g) g _ rfl) (fun j hj q => by omega))
            clear D1 D2 D3 D4 D5 BT HD HISZ HC HK
            go_wp2_with (first | refine wpList_store_row rfl 103 (.tmp 13) (.tmp 42) rfl v p2.cs rfl rfl 103 #[.int .i64 0, .string ⟨#[]⟩, .slice none 0 0] (unhide HZ3) size_prt rfl (unhide HO3) ?_ | refine wpList_buildAs rfl 34 #[] rfl _ rfl (Rep.bare 0).cs (unhide HBN) ?_ | refine wpList_store_row rfl 34 (.tmp 6) (.tmp 46) rfl g (Rep.bare 0).cs rfl rfl 34 #[.int .i64 0, .int .i64 0, .int .i64 0, .slice none 0 0, .int .i64 0, .slice none 0 0, .string ⟨#[]⟩, .string ⟨#[]⟩] (unhide HZ5) size_rep rfl (unhide HO5) ?_)
            (try simp only [Exit.inBlock, Exit.then])
            refine bodyPost_ret (v := .tuple #[.agg (Rep.bare 0).cs, .bool false]) (results_cell2 (p := 6) (q := 7) (ty := 34) rfl _ _ _ ⟨g, 0, none⟩ rfl _ (unhide HL)) rfl ?_
            exact TrP.no (unhide HTN) (unhide HF2)
    · obtain rfl : k = n := by omega
      rw [List.drop_of_length_le (by have := unhide HN; omega), takeP] at hTk
      have HTK := hide hTk
      have hkg := BK.lt
      have HMK := hide (show RM st N rk a (wr.setRow g rk.cs) from (hMk.only (only_setRow (P := fun j => j = g) g _ rfl) (fun j hj _ e => by omega)).base (by have := unhide HNW; omega))
      clear hTk hMk hkg
      have hkn' : ¬ (k : Int) < (k : Int) := by omega
      have HRG := hide (show wr.rangeAt h 0 rk.cl from blk_range BK)
      have BT := blk_setRow (cells := rk.cs) BR
      have HL := hide (iload_blk 34 _ BT Tryz.underlying34 rfl size_rep)
      have HZ := hide BR
      have HO := hide (Rep.one rk)
      have HF2 := hide (show Only (fun j => j = b) w (wr.setRow g rk.cs) from hOk.trans (only_setRow (P := fun j => j = g) g _ rfl) (fun j hj q => by omega))
      clear BR BK hRk hAk hOk hisz BT
      go_wp2_with (first | refine wpList_load_mid rfl 34 (.tmp 9) rfl h 0 rfl rk.cl _ (unhide HRG) Tryz.underlying34 rfl size_rep ?_ | refine wpList_store_row rfl 34 (.tmp 6) (.tmp 55) rfl g rk.cs rfl rfl 34 #[.int .i64 0, .int .i64 0, .int .i64 0, .slice none 0 0, .int .i64 0, .slice none 0 0, .string ⟨#[]⟩, .string ⟨#[]⟩] (unhide HZ) size_rep rfl (unhide HO) ?_)
      (try simp only [Exit.inBlock, Exit.then])
      refine bodyPost_ret (v := .tuple #[.agg rk.cs, .bool true]) (results_cell2 (p := 6) (q := 7) (ty := 34) rfl _ _ _ ⟨g, 0, none⟩ rfl _ (unhide HL)) rfl ?_
      exact TrP.yes (unhide HTK) (unhide HF2) (unhide HMK)
end Go.Proofs.YtpjoibolhkgkhaaGreatDoor
namespace Go.Proofs.YtpjoibolhkgkhaaGreatDoor
open Go.RowKit
set_option maxRecDepth 100000
/-- what takeReply answers of a frame that is right -/
def TgQ (st : Int) (a : PR) (N b : Nat) (w : World) (e : Ending) (w' : World) : Prop := ∃ r : Rep, e = .returned (.tuple #[.agg r.cs, .bool true]) ∧ RM st N r a w' ∧ Only (fun j => j = b) w w'
theorem takeReply_good (kd st : Int) (s : ByteArray) (hs : s.size ≤ 150000000000000) (hsz : 1 + szF (rpF kd) ≤ s.size) (w : World) (b : Nat) (hA : At w b s 1) (hE : ETy w) (a : PR) (hfu : fullP kd st = true → takeP (rpF kd) PR.bare s 1 = some a) (hba : fullP kd st = false → a = PR.bare ∧ ((s.extract 1 (1 + szF (rpF kd))).toList == (strOfNums (List.replicate (szF (rpF kd)) (0 : Int))).toList) = true) :
    Calls Tryz.prog 44 #[.pointer (some ⟨b, 0, none⟩), .int .i64 kd, .int .i64 st] w fun e w' => TgQ st a w.heap.size b w e w' := by
  cases h : fullP kd st with
  | true =>
    refine (takeReplyP kd st h s hs hsz w b hA hE _ rfl).mono ?_
    rintro e w' ⟨r, B, he, ho, h1 | ⟨a', h1, h2, h3⟩⟩
    · rw [hfu h] at h1; exact absurd h1.1 (by simp)
    · rw [hfu h] at h1
      obtain rfl : a = a' := Option.some.inj h1
      subst h2
      exact ⟨r, he, h3, ho⟩
  | false =>
    refine (takeReplyZ kd st h s hs hsz w b hA hE).mono ?_
    rintro e w' ⟨he, ho⟩
    rw [(hba h).2] at he
    rw [(hba h).1]
    exact ⟨_, he, RM.bare _ _ _, ho⟩
/-- what DecodeReply answers of a frame that is right -/
def DgQ (st : Int) (a : PR) (g : Nat) (w : World) (e : Ending) (w' : World) : Prop := ∃ r : Rep, e = .returned (.tuple #[.agg r.cs, .int .i64 0]) ∧ RM st g r a w' ∧ Below g w w'
set_option maxHeartbeats 8000000 in
theorem decodeReply_good (k : Nat) (hk : k ≤ 12) (s : ByteArray) (hs : s.size ≤ 150000000000000) (w : World) (hE : ETy w) (hfr : frB s (rpF (k : Int)) (strOfNums [(k : Int)]) = true) (st0 : Int) (hst0 : (nums s).getD 0 0 = st0) (h13 : 0 ≤ st0 ∧ st0 ≤ 13) (a : PR) (hfu : fullP (k : Int) st0 = true → takeP (rpF (k : Int)) PR.bare s 1 = some a) (hba : fullP (k : Int) st0 = false → a = PR.bare ∧ ((s.extract 1 (1 + szF (rpF (k : Int)))).toList == (strOfNums (List.replicate (szF (rpF (k : Int))) (0 : Int))).toList) = true) : Calls Tryz.prog 16 #[.int .i64 (k : Int), .string s] w fun e w' => DgQ st0 a w.heap.size w e w' := by
  have HKK := hide (isReplyKind_any (k : Int))
  rw [decide_eq_true (show (0 : Int) ≤ (k : Int) ∧ (k : Int) ≤ 12 by omega)] at HKK
  have HKB := hide (fun W => kindByte_any k hk W)
  have hk1 : (strOfNums [(k : Int)]).size = 1 := by
    rw [← nums_len, nums_strOfNums]
    · rfl
    · intro j
      cases j with
      | zero => simp; omega
      | succ j => simp
  have HIF := hide (fun v W hR => isFrame_any s hs (rpF (k : Int)) (fun f hf => (rpF_all (k : Int) f hf).isF) (rpF_len (k : Int)) (strOfNums [(k : Int)]) (by omega) v W hR)
  have HFR := hide (show frB s (rpF (k : Int)) (strOfNums [(k : Int)]) = true → 1 + szF (rpF (k : Int)) ≤ s.size ∧ 0 < s.size by
    intro q
    unfold frB at q
    by_cases e : s.size = 5 + szF (rpF (k : Int))
    · omega
    · rw [if_neg e] at q; exact absurd q (by decide))
  have HTK := hide (fun W b (q : 1 + szF (rpF (k : Int)) ≤ s.size) hA hEE => takeReply_good (k : Int) st0 s hs q W b hA hEE a hfu hba)
  have HST := hide (And.intro hst0 h13)
  clear hfu hba hst0 h13
  have HRF := hide (rpf_any (k : Int))
  rw [hfr] at HIF HFR
  clear hfr
  generalize strOfNums [(k : Int)] = S1 at *
  generalize rpF (k : Int) = fs at *
  obtain ⟨g, hg⟩ : ∃ g, w.heap.size = g := ⟨_, rfl⟩
  obtain ⟨y, hy⟩ : ∃ Z, w.alloc (.cells #[.int .i64 0, .int .i64 0, .int .i64 0, .slice none 0 0, .int .i64 0, .slice none 0 0, .string ⟨#[]⟩, .string ⟨#[]⟩] 34) = Z := ⟨_, rfl⟩
  have BY : Blk y g #[.int .i64 0, .int .i64 0, .int .i64 0, .slice none 0 0, .int .i64 0, .slice none 0 0, .string ⟨#[]⟩, .string ⟨#[]⟩] 34 := by rw [← hy, ← hg]; exact Blk.new w _ _
  have hby : Below g w y := by rw [← hy, ← hg]; exact (Below.refl _ w).alloc (Nat.le_refl _) _
  have HEW := hide (fun W (q : Below g w W) => hE.below q (by rw [← hg]; exact hE.lt))
  have HY := hide (And.intro BY hby)
  rw [hg]
  clear BY hby hE hk1
  go_enter Tryz.func16, Tryz.ntmps16
  go_wp2_with (first | (go_at_call 34; refine (unhide HKK _).mono ?_; rintro e x ⟨rfl, hx⟩; subst x))
  clear hy
  refine (unhide HRF _).mono ?_
  rintro e x3 ⟨fvv, rfl, hR3, hb3⟩
  obtain ⟨BY, hby⟩ := unhide HY
  have hgy := BY.lt
  have H3 := hide (And.intro (BY.below hb3 BY.lt) (And.intro (hby.trans (hb3.mono (by omega))) hR3))
  clear BY hby hR3 hb3 HY HRF
  go_wp2_with fail
  refine (unhide HKB _).mono ?_
  rintro e x4 ⟨rfl, hb4⟩
  obtain ⟨B3, hbw3, hR3⟩ := unhide H3
  have hg3 := B3.lt
  have HIF3 := hide (unhide HIF fvv x4 (hR3.below hb4 hR3.lt))
  have H4 := hide (And.intro (B3.below hb4 B3.lt) (hbw3.trans (hb4.mono (by omega))))
  clear B3 hbw3 hR3 hb4 H3 HIF HKB
  go_wp2_with fail
  refine (unhide HIF3).mono ?_
  rintro e x5 ⟨rfl, hb5⟩
  have B5 := (unhide H4).1.below hb5 (unhide H4).1.lt
  have hg4 := (unhide H4).1.lt
  have hbw5 : Below g w x5 := (unhide H4).2.trans (hb5.mono (by omega))
  clear hb5 H4 HIF3
  have HX5 := hide (And.intro B5 hbw5)
  have HS := hide (unhide HFR (by first | rfl | trivial))
  have hs0 := (unhide HS).2
  clear B5 hbw5
  go_wp2_with fail
  refine (newReader_any s _).mono ?_
  rintro e x6 ⟨rfl, hR6, hb6, hs6⟩
  obtain ⟨v, hv⟩ : ∃ v, x5.heap.size = v := ⟨_, rfl⟩
  rw [hv] at hR6 hb6 hs6 ⊢
  have hg5 := (unhide HX5).1.lt
  have B6 := (unhide HX5).1.below hb6 (by omega)
  have hbw6 : Below g w x6 := (unhide HX5).2.trans (hb6.mono (by omega))
  have hA6 : At x6 v s 0 := by unfold At Rds; rw [extract_all]; exact hR6
  have HN := hide (numA x6 v s 0 1 hA6 (unhide HEW x6 hbw6) hs (by decide) (by decide) (by omega))
  rw [beN1 s 0 hs0] at HN
  have hbb := nums_bytes s 0
  rw [(unhide HST).1] at HN hbb
  have H6 := hide (And.intro B6 hbw6)
  clear hR6 hb6 hs6 B6 hbw6 hA6 HX5
  go_wp2_with fail
  refine (unhide HN).mono ?_
  rintro e x7 ⟨rfl, hA7, hO7⟩
  have hgv : g < v := by omega
  have hg6 := (unhide H6).1.lt
  have B7 := (unhide H6).1.only hO7 (by omega)
  have hbw7 : Below g w x7 := (unhide H6).2.trans (hO7.below (B := g) (by omega) (fun q hq e => by omega))
  have HSS := hide (isStatus_any st0)
  clear hO7 HN H6
  have hst := (unhide HST).2
  rw [decide_eq_true hst] at HSS
  have HTR := hide (unhide HTK x7 v (unhide HS).1 hA7 (unhide HEW x7 hbw7))
  have H7 := hide (And.intro B7 hbw7)
  clear B7 hbw7 hA7
  go_wp2_with (first | (go_at_call 35; refine (unhide HSS _).mono ?_; rintro e x ⟨rfl, hx⟩; subst x))
  refine (unhide HTR).mono ?_
  rintro e x8 ⟨r, rfl, hM8, hO8⟩
  have hg7 := (unhide H7).1.lt
  have B8 := (unhide H7).1.only hO8 (by omega)
  have hbw8 : Below g w x8 := (unhide H7).2.trans (hO8.below (B := g) (by omega) (fun q hq e => by omega))
  obtain ⟨u, hu⟩ : ∃ u, x8.heap.size = u := ⟨_, rfl⟩
  obtain ⟨xa, hxa⟩ : ∃ Z, x8.alloc (.cells #[.int .i64 0, .int .i64 0, .int .i64 0, .slice none 0 0, .int .i64 0, .slice none 0 0, .string ⟨#[]⟩, .string ⟨#[]⟩] 34) = Z := ⟨_, rfl⟩
  obtain ⟨x9, hx9⟩ : ∃ Z, xa.setRow u r.cs = Z := ⟨_, rfl⟩
  have HBA := hide (show Blk xa u #[.int .i64 0, .int .i64 0, .int .i64 0, .slice none 0 0, .int .i64 0, .slice none 0 0, .string ⟨#[]⟩, .string ⟨#[]⟩] 34 from by rw [← hxa, ← hu]; exact Blk.new _ _ _)
  have HOR := hide (Rep.one r)
  have hg8 := B8.lt
  have hba : Below u x8 xa := by rw [← hxa, ← hu]; exact (Below.refl _ _).alloc (Nat.le_refl _) _
  have oU : Only (fun j => j = u) xa x9 := by rw [← hx9]; exact only_setRow (P := fun j => j = u) u _ rfl
  have B9 : Blk x9 g #[.int .i64 0, .int .i64 0, .int .i64 0, .slice none 0 0, .int .i64 0, .slice none 0 0, .string ⟨#[]⟩, .string ⟨#[]⟩] 34 := (B8.below hba (by omega)).only oU (by omega)
  have C9 : Blk x9 u r.cs 34 := by rw [← hx9]; exact blk_setRow (unhide HBA)
  have hbw9 : Below g w x9 := (hbw8.trans (hba.mono (by omega))).trans (oU.below (B := g) (by have := hba.size; omega) (fun q hq e => by omega))
  have HRG := hide (show x9.rangeAt u 0 r.cl from blk_range C9)
  have hx78 := hO8.size
  have hM9 : RM st0 x7.heap.size r a x9 := (hM8.only (P := fun _ => False) ((Only.of_below (P := fun _ => False) (show Below x8.heap.size x8 xa from by rw [hu]; exact hba)).trans oU (fun j hj q => by omega)) (fun _ _ _ q => q))
  have HM := hide (show RM st0 g r a (x9.setRow g r.cs) from (hM9.only (only_setRow (P := fun j => j = g) g _ rfl) (fun j hj _ e => by omega)).base (by omega))
  clear hO8 HTR H7 B8 hbw8 hba oU C9 HSS hM8 hM9 hx78
  have BT := blk_setRow (cells := r.cs) B9
  have HL := hide (iload_blk 34 _ BT Tryz.underlying34 rfl size_rep)
  have HZ := hide B9
  have HF2 := hide (show Below g w (x9.setRow g r.cs) from below_setRow hbw9 (Nat.le_refl _) _)
  clear BT
  go_wp2_with (first | refine wpList_store_row rfl 34 (.tmp 8) (.tmp 35) rfl u r.cs rfl rfl 34 #[.int .i64 0, .int .i64 0, .int .i64 0, .slice none 0 0, .int .i64 0, .slice none 0 0, .string ⟨#[]⟩, .string ⟨#[]⟩] (unhide HBA) size_rep rfl (unhide HOR) ?_ | refine wpList_load_mid rfl 34 (.tmp 8) rfl u 0 rfl r.cl _ (unhide HRG) Tryz.underlying34 rfl size_rep ?_ | refine wpList_store_row rfl 34 (.tmp 4) (.tmp 40) rfl g r.cs rfl rfl 34 #[.int .i64 0, .int .i64 0, .int .i64 0, .slice none 0 0, .int .i64 0, .slice none 0 0, .string ⟨#[]⟩, .string ⟨#[]⟩] (unhide HZ) size_rep rfl (unhide HOR) ?_)
  (try simp only [Exit.inBlock, Exit.then])
  refine bodyPost_ret (v := .tuple #[.agg r.cs, .int .i64 0]) (results_cell2 (p := 4) (q := 5) (ty := 34) rfl _ _ _ ⟨g, 0, none⟩ rfl _ (unhide HL)) rfl ?_
  exact ⟨r, rfl, unhide HM, unhide HF2⟩
end Go.Proofs.YtpjoibolhkgkhaaGreatDoor
namespace Go.Proofs.YtpjoibolhkgkhaaGreatDoor
open Go.RowKit
set_option maxRecDepth 100000
set_option maxHeartbeats 1000000 in
theorem same12_any (w : World) (p1 p2 : Option Addr) (c1 c2 : Nat) (l1 l2 : List Int) (n1 n2 : Nat) (hn1 : n1 = l1.length) (hn2 : n2 = l2.length) (hz : n1 ≤ 1000000) (h1 : Lst w w.heap.size p1 l1) (h2 : Lst w w.heap.size p2 l2) : Calls Tryz.prog 20 #[.slice p1 n1 c1, .slice p2 n2 c2] w fun e w' => e = .returned (.bool (decide (l1 = l2))) ∧ Below w.heap.size w w' := by
  by_cases hne : n1 = n2
  · subst hne
    have HL := hide (And.intro hn1 (And.intro hn2 (And.intro h1 h2)))
    have hnn : ((n1 : Int) != (n1 : Int)) = false := by simp
    clear hn1 hn2 h1 h2
    go_enter Tryz.func20, Tryz.ntmps20
    go_wp2
    go_loopw [5] (fun i wr => ∃ k : Nat, k ≤ n1 ∧ i = .int .i64 (k : Int) ∧ (∀ j, j < k → l1.getD j 0 = l2.getD j 0) ∧ Below w.heap.size w wr) (fun i _ => n1 - (intOf i).toNat)
    case atStart => exact ⟨0, by omega, rfl, fun j hj => absurd hj (by omega), Below.refl _ _⟩
    case round =>
      obtain ⟨k, hk, rfl, hall, hb⟩ := hrel
      obtain ⟨wo, rfl⟩ : ∃ wo, wo = wr := ⟨_, rfl⟩
      have XB := hide hb
      have HA := hide hall
      clear hb hall
      by_cases hkn : k < n1
      · obtain ⟨g1, o1, rfl, q1, d1⟩ := (unhide HL).2.2.1 k (by have := (unhide HL).1; omega)
        obtain ⟨g2, o2, rfl, q2, d2⟩ := (unhide HL).2.2.2 k (by have := (unhide HL).2.1; omega)
        have e1 := ((unhide XB).cell (p := ⟨g1, o1 + k, none⟩) q1).trans d1
        have e2 := ((unhide XB).cell (p := ⟨g2, o2 + k, none⟩) q2).trans d2
        obtain ⟨z1, hz1⟩ : ∃ z, l1.getD k 0 = z := ⟨_, rfl⟩
        obtain ⟨z2, hz2⟩ : ∃ z, l2.getD k 0 = z := ⟨_, rfl⟩
        rw [hz1] at e1
        rw [hz2] at e2
        have HZ := hide (And.intro hz1 hz2)
        clear q1 q2 d1 d2 hz1 hz2
        have j0 : 0 ≤ (k : Int) := by omega
        have j1 : (k : Int) < (n1 : Int) := by omega
        by_cases hzz : z1 = z2
        · subst hzz
          have hq : (z1 != z1) = false := by simp
          go_wp2_with fail
          go_quiet (fail)
          go_wp2
          go_roundw
          case rel =>
            refine ⟨k + 1, by omega, by go_num, fun j hj => ?_, below_drewN (unhide XB) _⟩
            by_cases e : j = k
            · rw [e, (unhide HZ).1, (unhide HZ).2]
            · exact unhide HA j (by omega)
          case measure => simp [intOf]; omega
        · have hq : (z1 != z2) = true := by simpa using hzz
          have HD := hide (show decide (l1 = l2) = false from decide_eq_false (fun e => hzz (by rw [← (unhide HZ).1, ← (unhide HZ).2, e])))
          clear hzz
          go_wp2_with fail
          go_quiet (fail)
          go_wp2
          go_ret
          rw [unhide HD]
          exact ⟨rfl, below_drewN (unhide XB) _⟩
      · have e1 : ¬ (k : Int) < (n1 : Int) := by omega
        have HD := hide (show decide (l1 = l2) = true from decide_eq_true (by
          obtain ⟨a1, a2, _⟩ := unhide HL
          refine List.ext_getElem (by omega) (fun i b1 b2 => ?_)
          have := unhide HA i (by omega)
          rwa [List.getD_eq_getElem?_getD, List.getD_eq_getElem?_getD, List.getElem?_eq_getElem b1, List.getElem?_eq_getElem b2] at this))
        go_wp2
        go_ret
        rw [unhide HD]
        exact ⟨rfl, unhide XB⟩
  · have hnn : ((n1 : Int) != (n2 : Int)) = true := by simp; omega
    have HD := hide (show decide (l1 = l2) = false from decide_eq_false (fun e => hne (by rw [hn1, hn2, e])))
    clear hne hn1 hn2 h1 h2
    go_enter Tryz.func20, Tryz.ntmps20
    go_wp2
    go_ret
    rw [unhide HD]
    exact ⟨rfl, Below.refl _ _⟩
theorem same12_eq (w : World) (p1 p2 : Option Addr) (c1 c2 : Nat) (L : List Int) (n1 n2 : Nat) (hn1 : n1 = L.length) (hn2 : n2 = L.length) (hz : n1 ≤ 1000000) (h1 : Lst w w.heap.size p1 L) (h2 : Lst w w.heap.size p2 L) : Calls Tryz.prog 20 #[.slice p1 n1 c1, .slice p2 n2 c2] w fun e w' => e = .returned (.bool true) ∧ Below w.heap.size w w' := by
  refine (same12_any w p1 p2 c1 c2 L L n1 n2 hn1 hn2 hz h1 h2).mono ?_
  rintro e w' ⟨he, hb⟩
  rw [decide_eq_true (show L = L from rfl)] at he
  exact ⟨he, hb⟩
/-- two replies that say the same -/
structure Ali (r q : Rep) (w : World) (V Pl : List Int) : Prop where
  st : r.st = q.st
  qu : r.qu = q.qu
  ch : r.ch = q.ch
  no : r.no = q.no
  wr : r.wr = q.wr
  da : r.da = q.da
  v1 : r.vm = V.length ∧ Lst w w.heap.size r.vp V
  v2 : q.vm = V.length ∧ Lst w w.heap.size q.vp V
  p1 : r.pm = Pl.length ∧ Lst w w.heap.size r.pp Pl
  p2 : q.pm = Pl.length ∧ Lst w w.heap.size q.pp Pl
  m8 : V.length ≤ 8 ∧ Pl.length ≤ 8
set_option maxHeartbeats 4000000 in
theorem alike12_eq (r q : Rep) (w : World) (V Pl : List Int) (h : Ali r q w V Pl) : Calls Tryz.prog 18 #[.agg r.cs, .agg q.cs] w fun e w' => e = .returned (.bool true) ∧ Below w.heap.size w w' := by
  obtain ⟨B1, B2, hbl, hs2⟩ := two_boxes w r.cs q.cs 34 34
  obtain ⟨g, hg⟩ : ∃ g, w.heap.size = g := ⟨_, rfl⟩
  rw [hg] at B1 B2 hbl hs2 ⊢
  obtain ⟨y, hy⟩ : ∃ Z, (w.alloc (.cells r.cs 34)).alloc (.cells q.cs 34) = Z := ⟨_, rfl⟩
  rw [hy] at B1 B2 hbl hs2
  obtain ⟨rst, rqu, rch, rvp, rvm, rvc, rno, rpp, rpm, rpc, rwr, rda⟩ := r
  obtain ⟨qst, qqu, qch, qvp, qvm, qvc, qno, qpp, qpm, qpc, qwr, qda⟩ := q
  obtain ⟨e1, e2, e3, e4, e5, e6, v1, v2, p1, p2, m8⟩ := h
  simp only at e1 e2 e3 e4 e5 e6 v1 v2 p1 p2
  subst e1 e2 e3 e4 e5 e6
  have hLB : ∀ (p : Option Addr) (L : List Int) (W : World), Lst w w.heap.size p L → Below g w W → Lst W W.heap.size p L := fun p L W hl hb => ((hg ▸ hl).below hb).mono (by rw [← hg]; exact hb.size)
  have HV := hide (fun W (hb : Below g w W) => same12_eq W rvp qvp rvc qvc V rvm qvm v1.1 v2.1 (by omega) (hLB _ _ W v1.2 hb) (hLB _ _ W v2.2 hb))
  have HP := hide (fun W (hb : Below g w W) => same12_eq W rpp qpp rpc qpc Pl rpm qpm p1.1 p2.1 (by omega) (hLB _ _ W p1.2 hb) (hLB _ _ W p2.2 hb))
  have HY := hide (And.intro B1 (And.intro B2 hbl))
  have r3 : y.cell? ⟨g, 3, none⟩ = some (.slice rvp rvm rvc) := by rw [B1.cell]; rfl
  have q3 : y.cell? ⟨g + 1, 3, none⟩ = some (.slice qvp qvm qvc) := by rw [B2.cell]; rfl
  have hsz : y.heap.size = g + 2 := hs2
  clear B1 B2 hbl v1 v2 p1 p2 hLB m8
  go_enter Tryz.func18, Tryz.ntmps18
  go_wp2_with fail
  refine (unhide HV _ (unhide HY).2.2).mono ?_
  rintro e y1 ⟨rfl, hy1⟩
  obtain ⟨B1, B2, hbl⟩ := unhide HY
  have C1 := B1.below hy1 B1.lt
  have C2 := B2.below hy1 B2.lt
  have hb1 : Below g w y1 := hbl.trans (hy1.mono (by omega))
  have r5 : y1.cell? ⟨g, 5, none⟩ = some (.slice rpp rpm rpc) := by rw [C1.cell]; rfl
  have q5 : y1.cell? ⟨g + 1, 5, none⟩ = some (.slice qpp qpm qpc) := by rw [C2.cell]; rfl
  have hs1 : g + 2 ≤ y1.heap.size := by have := hy1.size; omega
  have HY1 := hide (And.intro C1 (And.intro C2 hb1))
  clear B1 B2 hbl C1 C2 hb1 hy1 HY r3 q3 hsz
  go_wp2_with fail
  refine (unhide HP _ (unhide HY1).2.2).mono ?_
  rintro e y2 ⟨rfl, hy2⟩
  obtain ⟨B1, B2, hbl⟩ := unhide HY1
  have C1 := B1.below hy2 B1.lt
  have C2 := B2.below hy2 B2.lt
  have HB2 := hide (show Below g w y2 from hbl.trans (hy2.mono (by omega)))
  have c0 : y2.cell? ⟨g, 0, none⟩ = some (.int .i64 rst) := by rw [C1.cell]; rfl
  have d0 : y2.cell? ⟨g + 1, 0, none⟩ = some (.int .i64 rst) := by rw [C2.cell]; rfl
  have c1 : y2.cell? ⟨g, 1, none⟩ = some (.int .i64 rqu) := by rw [C1.cell]; rfl
  have d1 : y2.cell? ⟨g + 1, 1, none⟩ = some (.int .i64 rqu) := by rw [C2.cell]; rfl
  have c2 : y2.cell? ⟨g, 2, none⟩ = some (.int .i64 rch) := by rw [C1.cell]; rfl
  have d2 : y2.cell? ⟨g + 1, 2, none⟩ = some (.int .i64 rch) := by rw [C2.cell]; rfl
  have c4 : y2.cell? ⟨g, 4, none⟩ = some (.int .i64 rno) := by rw [C1.cell]; rfl
  have d4 : y2.cell? ⟨g + 1, 4, none⟩ = some (.int .i64 rno) := by rw [C2.cell]; rfl
  have c6 : y2.cell? ⟨g, 6, none⟩ = some (.string rwr) := by rw [C1.cell]; rfl
  have d6 : y2.cell? ⟨g + 1, 6, none⟩ = some (.string rwr) := by rw [C2.cell]; rfl
  have c7 : y2.cell? ⟨g, 7, none⟩ = some (.string rda) := by rw [C1.cell]; rfl
  have d7 : y2.cell? ⟨g + 1, 7, none⟩ = some (.string rda) := by rw [C2.cell]; rfl
  clear B1 B2 hbl C1 C2 hy2 HY1 r5 q5 hs1
  go_wp2_with fail
  go_ret
  exact ⟨rfl, unhide HB2⟩
end Go.Proofs.YtpjoibolhkgkhaaGreatDoor
