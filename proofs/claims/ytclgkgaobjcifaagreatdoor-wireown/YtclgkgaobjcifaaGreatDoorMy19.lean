import Derived.Test.YtclgkgaobjcifaaGreatDoorMy17
import Derived.Test.YtclgkgaobjcifaaGreatDoorMy16
import Derived.Test.YtclgkgaobjcifaaGreatDoorMy18
import Derived.Test.YtclgkgaobjcifaaGreatDoorMy01
import Derived.Test.YtclgkgaobjcifaaGreatDoorMy08
import Derived.Test.YtclgkgaobjcifaaGreatDoorMy12
import Derived.Test.YtclgkgaobjcifaaGreatDoorMy15
namespace Go.Proofs.YtclgkgaobjcifaaGreatDoor
open Go.RowKit
set_option maxRecDepth 100000
/-- what takeReply answers of a reply that is not full -/
def TrN (Z : Bool) (st : Int) (b : Nat) (w : World) (e : Ending) (w' : World) : Prop := e = .returned (.tuple #[.agg (Rep.bare st).cs, .bool Z]) ∧ Only (fun j => j = b) w w'
set_option maxHeartbeats 8000000 in
theorem takeReplyZ (kd st : Int) (hfull : fullP kd st = false) (s : ByteArray) (hs : s.size ≤ 150000000000000) (hsz : 1 + szF (rpF kd) ≤ s.size) (w : World) (b : Nat) (hA : At w b s 1) (hE : ETy w) :
    Calls Tryz.prog 44 #[.pointer (some ⟨b, 0, none⟩), .int .i64 kd, .int .i64 st] w fun e w' => TrN ((s.extract 1 (1 + szF (rpF kd))).toList == (strOfNums (List.replicate (szF (rpF kd)) (0 : Int))).toList) st b w e w' := by
  obtain ⟨B1, B2, hbl, hs2⟩ := two_boxes w #[.int .i64 0, .int .i64 0, .int .i64 0, .slice none 0 0, .int .i64 0, .slice none 0 0, .string ⟨#[]⟩, .string ⟨#[]⟩] #[.int .i64 0, .int .i64 0, .int .i64 0, .slice none 0 0, .int .i64 0, .slice none 0 0, .string ⟨#[]⟩, .string ⟨#[]⟩] 34 34
  obtain ⟨g, hg⟩ : ∃ g, w.heap.size = g := ⟨_, rfl⟩
  obtain ⟨y0, hy0⟩ : ∃ Z, w.alloc (.cells #[.int .i64 0, .int .i64 0, .int .i64 0, .slice none 0 0, .int .i64 0, .slice none 0 0, .string ⟨#[]⟩, .string ⟨#[]⟩] 34) = Z := ⟨_, rfl⟩
  have B0 : Blk y0 g #[.int .i64 0, .int .i64 0, .int .i64 0, .slice none 0 0, .int .i64 0, .slice none 0 0, .string ⟨#[]⟩, .string ⟨#[]⟩] 34 := by rw [← hy0, ← hg]; exact Blk.new w _ _
  have hb0 : Below g w y0 := by rw [← hy0, ← hg]; exact (Below.refl _ w).alloc (Nat.le_refl _) _
  have hs0 : y0.heap.size = g + 1 := by rw [← hy0, World.size_alloc, hg]
  have hbg : b < g := by rw [← hg]; exact hA.lt
  have hne := Rds.ne hA hE
  have HEW := hide (fun W (h : Only (fun j => j = b) w W) => hE.only h (fun q => hne q.symm))
  have hO0 : Only (fun j => j = b) w y0 := Only.of_below (by rw [hg]; exact hb0)
  have HY := hide (And.intro B0 (And.intro (hA.below hb0 hbg) hO0))
  have HF := hide (rpf_any kd)
  have HALL := hide (rpF_all kd)
  have HLEN := hide (rpF_len kd)
  have HB0 := hide (built_rep st)
  have HO1 := hide (Rep.one (Rep.bare st))
  have HFU := hide (isFull_any kd st)
  have HSZ := hide hsz
  have hs9 : szF (rpF kd) ≤ 1000 := by
    unfold rpF
    (repeat' split) <;> decide
  generalize rpF kd = fs at *
  obtain ⟨ZZ, hZZ⟩ : ∃ Z, ((s.extract 1 (1 + szF (fs))).toList == (strOfNums (List.replicate (szF (fs)) (0 : Int))).toList) = Z := ⟨_, rfl⟩
  rw [hZZ]
  have HZZ := hide hZZ
  clear hZZ
  clear B1 B2 hbl hs2 hA hE B0 hb0 hO0 hsz hne
  rw [hfull] at HFU
  go_enter Tryz.func44, Tryz.ntmps44
  go_wp2_with fail
  clear hy0
  refine (unhide HF _).mono ?_
  rintro e x ⟨fvv, rfl, hR, hx⟩
  obtain ⟨p, rfl, hp⟩ := hR.form
  obtain ⟨C0, hA0, hO0⟩ := unhide HY
  have hxs : g + 1 ≤ x.heap.size := by have := hx.size; omega
  obtain ⟨h, hh⟩ : ∃ h, x.heap.size = h := ⟨_, rfl⟩
  obtain ⟨xa, hxa⟩ : ∃ Z, x.alloc (.cells #[.int .i64 0, .int .i64 0, .int .i64 0, .slice none 0 0, .int .i64 0, .slice none 0 0, .string ⟨#[]⟩, .string ⟨#[]⟩] 34) = Z := ⟨_, rfl⟩
  obtain ⟨x2, hx2⟩ : ∃ Z, xa.setRow h (Rep.bare st).cs = Z := ⟨_, rfl⟩
  have HBA := hide (show Blk xa h #[.int .i64 0, .int .i64 0, .int .i64 0, .slice none 0 0, .int .i64 0, .slice none 0 0, .string ⟨#[]⟩, .string ⟨#[]⟩] 34 from by rw [← hxa, ← hh]; exact Blk.new _ _ _)
  have hba : Below h x xa := by rw [← hxa, ← hh]; exact (Below.refl _ _).alloc (Nat.le_refl _) _
  have hba' : Below x.heap.size x xa := by rw [hh]; exact hba
  have oR : Only (fun j => j = h) xa x2 := by rw [← hx2]; exact only_setRow (P := fun j => j = h) h _ rfl
  have hfl := hR.lt
  have hyl := hA0.lt
  have HX := hide (show Blk x2 g #[.int .i64 0, .int .i64 0, .int .i64 0, .slice none 0 0, .int .i64 0, .slice none 0 0, .string ⟨#[]⟩, .string ⟨#[]⟩] 34 ∧ Blk x2 h (Rep.bare st).cs 34 ∧ At x2 b s 1 ∧ Only (fun j => j = b) w x2 ∧ FR x2 (.slice p fs.length fs.length) fs from
    ⟨((C0.below hx C0.lt).below hba (by omega)).only oR (by omega), by rw [← hx2]; exact blk_setRow (unhide HBA), ((hA0.below hx hA0.lt).below hba (by omega)).only oR (by omega), ((hO0.trans (Only.of_below (P := fun _ => False) hx) (fun _ _ e => e.elim)).trans (Only.of_below (P := fun _ => False) hba') (fun _ _ e => e.elim)).trans oR (fun k hk q => by omega), (hR.below hba (fun q hq => by have := hfl q hq; omega)).only oR (fun q hq e => by have := hfl q hq; omega)⟩)
  have hgh : g + 1 ≤ h := by omega
  obtain ⟨n, hn⟩ : ∃ n, fs.length = n := ⟨_, rfl⟩
  have HN := hide hn
  rw [hn]
  clear hp hR C0 hA0 hO0 hx hn HY hba hba' oR hfl hyl hs0 hxs
  go_wp2_with (first | refine wpList_buildAs rfl 34 #[(0, .tmp 17)] rfl _ rfl (Rep.bare st).cs (unhide HB0) ?_ | refine wpList_store_row rfl 34 (.tmp 9) (.tmp 18) rfl h (Rep.bare st).cs rfl rfl 34 #[.int .i64 0, .int .i64 0, .int .i64 0, .slice none 0 0, .int .i64 0, .slice none 0 0, .string ⟨#[]⟩, .string ⟨#[]⟩] (unhide HBA) size_rep rfl (unhide HO1) ?_)
  clear hxa hx2 HBA
  refine (unhide HFU _).mono ?_
  rintro e x' ⟨rfl, hx'⟩
  subst x'
  obtain ⟨C1, C2, hA1, hO1, hR1⟩ := unhide HX
  rw [unhide HN] at hR1
  have HFS := hide (fieldsSize_any fs (fun f hf => (unhide HALL f hf).isF) (by have := unhide HLEN; omega) (.slice p n n) x2 hR1)
  obtain ⟨d, hd⟩ : ∃ d, szF fs = d := ⟨_, rfl⟩
  rw [hd] at HFS hs9
  have HDD := hide hd
  have HD := hide (show 1 + d ≤ s.size from by rw [← hd]; exact unhide HSZ)
  have HC := hide (And.intro C1 (And.intro C2 (And.intro hA1 hO1)))
  clear C1 C2 hA1 hO1 hR1 HX hd
  go_wp2_with fail
  refine (unhide HFS).mono ?_
  rintro e x3 ⟨rfl, hx3⟩
  have HC3 := hide (show Blk x3 g #[.int .i64 0, .int .i64 0, .int .i64 0, .slice none 0 0, .int .i64 0, .slice none 0 0, .string ⟨#[]⟩, .string ⟨#[]⟩] 34 ∧ Blk x3 h (Rep.bare st).cs 34 ∧ At x3 b s 1 ∧ Only (fun j => j = b) w x3 from ⟨(unhide HC).1.below hx3 (unhide HC).1.lt, (unhide HC).2.1.below hx3 (unhide HC).2.1.lt, (unhide HC).2.2.1.below hx3 (unhide HC).2.2.1.lt, (unhide HC).2.2.2.trans (Only.of_below (P := fun _ => False) hx3) (fun _ _ e => e.elim)⟩)
  clear hx3 HC HFS
  go_wp2_with fail
  obtain ⟨rl, hrl⟩ : ∃ l, (Rep.bare st).cl = l := ⟨_, rfl⟩
  have hrc : (Rep.bare st).cs = rl.toArray := by rw [← hrl]; rfl
  have hl8 : rl.length = 8 := by rw [← hrl]; rfl
  have HRS := hide (show (Tryz.prog.info? 34).map (·.size) = some rl.length from by rw [hl8]; exact size_rep)
  have HONE := hide (show rl.toArray.all (·.oneCell') = true from by rw [← hrc]; exact Rep.one _)
  have HRC := hide hrc
  refine wp_region_held_drew (S := fun x => x.rangeAt h 0 rl) (by kernel_rfl) (by have h9 := (unhide HC3).2.1; rw [hrc] at h9; exact blk_range h9) ?_
  intro hS
  obtain ⟨xd, hxd⟩ : ∃ X, x3.drew = X := ⟨_, rfl⟩
  rw [hxd] at hS ⊢
  have HX3 := hide (show Blk xd g #[.int .i64 0, .int .i64 0, .int .i64 0, .slice none 0 0, .int .i64 0, .slice none 0 0, .string ⟨#[]⟩, .string ⟨#[]⟩] 34 ∧ Blk xd h rl.toArray 34 ∧ At xd b s 1 ∧ Only (fun j => j = b) w xd from by
    rw [← hxd]
    obtain ⟨u1, u2, u3, u4⟩ := unhide HC3
    exact ⟨u1, by rw [hrc] at u2; exact u2, u3, u4.drew⟩)
  have HRW := hide (rawA xd b s 1 d (unhide HX3).2.2.1 (unhide HEW xd (unhide HX3).2.2.2) hs (unhide HD))
  have HNO := hide (fun W => noughts_any d hs9 W)
  obtain ⟨T1, hT1⟩ : ∃ T, s.extract 1 (1 + d) = T := ⟨_, rfl⟩
  obtain ⟨Z1, hZ1⟩ : ∃ Z, strOfNums (List.replicate d (0 : Int)) = Z := ⟨_, rfl⟩
  obtain ⟨D1, hD1⟩ : ∃ D, (T1.toList == Z1.toList) = D := ⟨_, rfl⟩
  have HDZ := hide (show D1 = ZZ by rw [← hD1, ← hT1, ← hZ1, ← unhide HDD]; exact unhide HZZ)
  rw [hT1] at HRW
  rw [hZ1] at HNO
  clear hxd hT1 hZ1 hrl hrc HC3 hl8
  refine wpAnyH_takeD 0 (some 25) (.agg rl.toArray) rfl rfl (by kernel_rfl) (by kernel_rfl) (by kernel_rfl) (fun _ _ _ h => h) (yieldsIf_load_mid (by rfl) 34 (.tmp 9) rfl h 0 rfl rl _ (fun _ hq => hq) Tryz.underlying34 rfl (unhide HRS)) hS ?_
  simp only [Act.put, List.setIfInBounds_toArray, List.set_cons_zero, List.set_cons_succ]
  refine wpAnyH_takeD 1 (some 26) (.pointer (some ⟨b, 0, none⟩)) rfl rfl (by kernel_rfl) (by kernel_rfl) (by kernel_rfl) (fun _ _ _ h => h) (Or.inl ⟨by rfl, fun w hSw => by clear hSw; go_simp⟩) hS ?_
  simp only [Act.put, List.setIfInBounds_toArray, List.set_cons_zero, List.set_cons_succ]
  refine wpAnyH_takeD 2 (some 27) (.int .i64 (d : Int)) rfl rfl (by kernel_rfl) (by kernel_rfl) (by kernel_rfl) (fun _ _ _ h => h) (Or.inl ⟨by rfl, fun w hSw => by clear hSw; go_simp⟩) hS ?_
  simp only [Act.put, List.setIfInBounds_toArray, List.set_cons_zero, List.set_cons_succ]
  refine wpAnyH_takeD 4 (some 29) (.int .i64 (d : Int)) rfl rfl (by kernel_rfl) (by kernel_rfl) (by kernel_rfl) (fun _ _ _ h => h) (Or.inl ⟨by rfl, fun w hSw => by clear hSw; go_simp⟩) hS ?_
  simp only [Act.put, List.setIfInBounds_toArray, List.set_cons_zero, List.set_cons_succ]
  refine wpAnyH_ready (rs := [3]) (by kernel_rfl) (by simp) ?_
  refine AllReadyH.cons rfl (fun K hK => ?_) AllReadyH.nil
  simp only [List.getElem_toArray, List.getElem_cons_succ, List.getElem_cons_zero]
  go_simp
  refine (unhide HRW).mono ?_
  rintro e z1 ⟨rfl, hA1, hO1⟩
  have HZ1 := hide (show Blk z1 g #[.int .i64 0, .int .i64 0, .int .i64 0, .slice none 0 0, .int .i64 0, .slice none 0 0, .string ⟨#[]⟩, .string ⟨#[]⟩] 34 ∧ Blk z1 h rl.toArray 34 ∧ Only (fun j => j = b) w z1 from ⟨(unhide HX3).1.only hO1 (by omega), (unhide HX3).2.1.only hO1 (by omega), (unhide HX3).2.2.2.trans hO1 (fun _ _ q => q)⟩)
  clear hA1 hO1 HRW HX3
  refine hK.out _ _ (blk_range (unhide HZ1).2.1) (fun hS => ?_)
  clear hK K
  refine wpAnyH_ready (rs := [5]) (by kernel_rfl) (by simp) ?_
  refine AllReadyH.cons rfl (fun K hK => ?_) AllReadyH.nil
  simp only [List.getElem_toArray, List.getElem_cons_succ, List.getElem_cons_zero]
  go_simp
  refine (unhide HNO z1).mono ?_
  rintro e z2 ⟨rfl, hb2⟩
  have HZ2 := hide (show Blk z2 g #[.int .i64 0, .int .i64 0, .int .i64 0, .slice none 0 0, .int .i64 0, .slice none 0 0, .string ⟨#[]⟩, .string ⟨#[]⟩] 34 ∧ Blk z2 h rl.toArray 34 ∧ Only (fun j => j = b) w z2 from ⟨(unhide HZ1).1.below hb2 (unhide HZ1).1.lt, (unhide HZ1).2.1.below hb2 (unhide HZ1).2.1.lt, (unhide HZ1).2.2.trans (Only.of_below (P := fun _ => False) hb2) (fun _ _ e => e.elim)⟩)
  clear hb2 HZ1
  refine hK.out _ _ (blk_range (unhide HZ2).2.1) (fun hS => ?_)
  clear hK K
  refine wpAnyH_takeD 6 (some 31) (.bool D1) rfl rfl (by kernel_rfl) (by kernel_rfl) (by kernel_rfl) (fun _ _ _ h => h) (Or.inl ⟨by rfl, fun w hSw => by clear hSw; go_simp⟩) hS ?_
  simp only [Act.put, List.setIfInBounds_toArray, List.set_cons_zero, List.set_cons_succ]
  refine wpAnyH_ready (rs := [7]) (by kernel_rfl) (by simp) ?_
  refine AllReadyH.cons rfl (fun K hK => ?_) AllReadyH.nil
  simp only [List.getElem_toArray, List.getElem_cons_succ, List.getElem_cons_zero]
  rw [if_pos (by rfl)]
  refine wp_store_mid 34 (.tmp 6) (.tmp 25) rfl g 0 rl.toArray rfl rfl (blk_there (unhide HZ2).1 _ (by have := unhide HRS; rw [size_rep] at this; injection this with this; simp; omega)) (by have := unhide HRS; simpa using this) (unhide HONE) ?_
  have HZ5 := hide (show Blk (z2.setCells g 0 rl) g rl.toArray 34 ∧ Blk (z2.setCells g 0 rl) h rl.toArray 34 ∧ Only (fun j => j = b) w (z2.setCells g 0 rl) from ⟨setCells_all (unhide HZ2).1 rl (by have h9 := unhide HRS; rw [size_rep] at h9; exact Option.some.inj h9), blk_cells_other rl 0 (unhide HZ2).2.1 g (by omega), (unhide HZ2).2.2.trans (only_cells (P := fun j => j = g) g 0 rl rfl) (fun k hk q => by omega)⟩)
  simp only
  obtain ⟨z5, hz5⟩ : ∃ Z, z2.setCells g 0 rl = Z := ⟨_, rfl⟩
  rw [hz5] at HZ5 ⊢
  clear hz5 HZ2
  simp only [Act.put]
  refine hK.out _ _ (blk_range (unhide HZ5).2.1) (fun hS => ?_)
  clear hK K
  refine wpAnyH_takeD 8 (some 7) (.bool D1) rfl rfl (by kernel_rfl) (by kernel_rfl) (by kernel_rfl) (fun _ _ _ h => h) (Or.inl ⟨by rfl, fun w hSw => by clear hSw; go_simp⟩) hS ?_
  simp only [Act.put, List.setIfInBounds_toArray, List.set_cons_zero, List.set_cons_succ]
  refine wpAnyH_done (by kernel_rfl) ?_ _
  clear hS
  have HL := hide (iload_blk 34 _ (unhide HZ5).1 Tryz.underlying34 rfl (by have := unhide HRS; simpa using this))
  go_wp2
  (try simp only [Exit.inBlock, Exit.then])
  refine bodyPost_ret (v := .tuple #[.agg rl.toArray, .bool D1]) (results_cell2 (p := 6) (q := 7) (ty := 34) rfl _ _ _ ⟨g, 0, none⟩ rfl _ (unhide HL)) rfl ?_
  exact ⟨by rw [unhide HRC, unhide HDZ], (unhide HZ5).2.2⟩
end Go.Proofs.YtclgkgaobjcifaaGreatDoor

namespace Go.Proofs.YtclgkgaobjcifaaGreatDoor
open Go.RowKit
set_option maxRecDepth 100000
/-- what takeReply answers of a frame that is right -/
def TgQ (st : Int) (a : PR) (N b : Nat) (w : World) (e : Ending) (w' : World) : Prop := ∃ r : Rep, e = .returned (.tuple #[.agg r.cs, .bool true]) ∧ RM st N r a w' ∧ Only (fun j => j = b) w w'
theorem takeReply_good (kd st : Int) (s : ByteArray) (hs : s.size ≤ 150000000000000) (hsz : 1 + szF (rpF kd) ≤ s.size) (w : World) (b : Nat) (hA : At w b s 1) (hE : ETy w) (a : PR) (hfu : fullP kd st = true → takeP (rpF kd) PR.bare s 1 = some a) (hba : fullP kd st = false → a = PR.bare ∧ ((s.extract 1 (1 + szF (rpF kd))).toList == (strOfNums (List.replicate (szF (rpF kd)) (0 : Int))).toList) = true) :
    Calls Tryz.prog 44 #[.pointer (some ⟨b, 0, none⟩), .int .i64 kd, .int .i64 st] w fun e w' => TgQ st a w.heap.size b w e w' := by
  cases h : fullP kd st with
  | true =>
    refine (takeReplyP kd st h s hs hsz w b hA hE _ rfl).mono ?_
    rintro e w' ⟨r, B, he, ho, h1 | ⟨a', h1, h2, h3⟩⟩
    · rw [hfu h] at h1; exact absurd h1.1 (by simp)
    · rw [hfu h] at h1
      obtain rfl : a = a' := Option.some.inj h1
      subst h2
      exact ⟨r, he, h3, ho⟩
  | false =>
    refine (takeReplyZ kd st h s hs hsz w b hA hE).mono ?_
    rintro e w' ⟨he, ho⟩
    rw [(hba h).2] at he
    rw [(hba h).1]
    exact ⟨_, he, RM.bare _ _ _, ho⟩
/-- what DecodeReply answers of a frame that is right -/
def DgQ (st : Int) (a : PR) (g : Nat) (w : World) (e : Ending) (w' : World) : Prop := ∃ r : Rep, e = .returned (.tuple #[.agg r.cs, .int .i64 0]) ∧ RM st g r a w' ∧ Below g w w'
set_option maxHeartbeats 8000000 in
theorem decodeReply_good (k : Nat) (hk : k ≤ 12) (s : ByteArray) (hs : s.size ≤ 150000000000000) (w : World) (hE : ETy w) (hfr : frB s (rpF (k : Int)) (strOfNums [(k : Int)]) = true) (st0 : Int) (hst0 : (nums s).getD 0 0 = st0) (h13 : 0 ≤ st0 ∧ st0 ≤ 13) (a : PR) (hfu : fullP (k : Int) st0 = true → takeP (rpF (k : Int)) PR.bare s 1 = some a) (hba : fullP (k : Int) st0 = false → a = PR.bare ∧ ((s.extract 1 (1 + szF (rpF (k : Int)))).toList == (strOfNums (List.replicate (szF (rpF (k : Int))) (0 : Int))).toList) = true) : Calls Tryz.prog 16 #[.int .i64 (k : Int), .string s] w fun e w' => DgQ st0 a w.heap.size w e w' := by
  have HKK := hide (isReplyKind_any (k : Int))
  rw [decide_eq_true (show (0 : Int) ≤ (k : Int) ∧ (k : Int) ≤ 12 by omega)] at HKK
  have HKB := hide (fun W => kindByte_any k hk W)
  have hk1 : (strOfNums [(k : Int)]).size = 1 := by
    rw [← nums_len, nums_strOfNums]
    · rfl
    · intro j
      cases j with
      | zero => simp; omega
      | succ j => simp
  have HIF := hide (fun v W hR => isFrame_any s hs (rpF (k : Int)) (fun f hf => (rpF_all (k : Int) f hf).isF) (rpF_len (k : Int)) (strOfNums [(k : Int)]) (by omega) v W hR)
  have HFR := hide (show frB s (rpF (k : Int)) (strOfNums [(k : Int)]) = true → 1 + szF (rpF (k : Int)) ≤ s.size ∧ 0 < s.size by
    intro q
    unfold frB at q
    by_cases e : s.size = 5 + szF (rpF (k : Int))
    · omega
    · rw [if_neg e] at q; exact absurd q (by decide))
  have HTK := hide (fun W b (q : 1 + szF (rpF (k : Int)) ≤ s.size) hA hEE => takeReply_good (k : Int) st0 s hs q W b hA hEE a hfu hba)
  have HST := hide (And.intro hst0 h13)
  clear hfu hba hst0 h13
  have HRF := hide (rpf_any (k : Int))
  rw [hfr] at HIF HFR
  clear hfr
  generalize strOfNums [(k : Int)] = S1 at *
  generalize rpF (k : Int) = fs at *
  obtain ⟨g, hg⟩ : ∃ g, w.heap.size = g := ⟨_, rfl⟩
  obtain ⟨y, hy⟩ : ∃ Z, w.alloc (.cells #[.int .i64 0, .int .i64 0, .int .i64 0, .slice none 0 0, .int .i64 0, .slice none 0 0, .string ⟨#[]⟩, .string ⟨#[]⟩] 34) = Z := ⟨_, rfl⟩
  have BY : Blk y g #[.int .i64 0, .int .i64 0, .int .i64 0, .slice none 0 0, .int .i64 0, .slice none 0 0, .string ⟨#[]⟩, .string ⟨#[]⟩] 34 := by rw [← hy, ← hg]; exact Blk.new w _ _
  have hby : Below g w y := by rw [← hy, ← hg]; exact (Below.refl _ w).alloc (Nat.le_refl _) _
  have HEW := hide (fun W (q : Below g w W) => hE.below q (by rw [← hg]; exact hE.lt))
  have HY := hide (And.intro BY hby)
  rw [hg]
  clear BY hby hE hk1
  go_enter Tryz.func16, Tryz.ntmps16
  go_wp2_with (first | (go_at_call 34; refine (unhide HKK _).mono ?_; rintro e x ⟨rfl, hx⟩; subst x))
  clear hy
  refine (unhide HRF _).mono ?_
  rintro e x3 ⟨fvv, rfl, hR3, hb3⟩
  obtain ⟨BY, hby⟩ := unhide HY
  have hgy := BY.lt
  have H3 := hide (And.intro (BY.below hb3 BY.lt) (And.intro (hby.trans (hb3.mono (by omega))) hR3))
  clear BY hby hR3 hb3 HY HRF
  go_wp2_with fail
  refine (unhide HKB _).mono ?_
  rintro e x4 ⟨rfl, hb4⟩
  obtain ⟨B3, hbw3, hR3⟩ := unhide H3
  have hg3 := B3.lt
  have HIF3 := hide (unhide HIF fvv x4 (hR3.below hb4 hR3.lt))
  have H4 := hide (And.intro (B3.below hb4 B3.lt) (hbw3.trans (hb4.mono (by omega))))
  clear B3 hbw3 hR3 hb4 H3 HIF HKB
  go_wp2_with fail
  refine (unhide HIF3).mono ?_
  rintro e x5 ⟨rfl, hb5⟩
  have B5 := (unhide H4).1.below hb5 (unhide H4).1.lt
  have hg4 := (unhide H4).1.lt
  have hbw5 : Below g w x5 := (unhide H4).2.trans (hb5.mono (by omega))
  clear hb5 H4 HIF3
  have HX5 := hide (And.intro B5 hbw5)
  have HS := hide (unhide HFR (by first | rfl | trivial))
  have hs0 := (unhide HS).2
  clear B5 hbw5
  go_wp2_with fail
  refine (newReader_any s _).mono ?_
  rintro e x6 ⟨rfl, hR6, hb6, hs6⟩
  obtain ⟨v, hv⟩ : ∃ v, x5.heap.size = v := ⟨_, rfl⟩
  rw [hv] at hR6 hb6 hs6 ⊢
  have hg5 := (unhide HX5).1.lt
  have B6 := (unhide HX5).1.below hb6 (by omega)
  have hbw6 : Below g w x6 := (unhide HX5).2.trans (hb6.mono (by omega))
  have hA6 : At x6 v s 0 := by unfold At Rds; rw [extract_all]; exact hR6
  have HN := hide (numA x6 v s 0 1 hA6 (unhide HEW x6 hbw6) hs (by decide) (by decide) (by omega))
  rw [beN1 s 0 hs0] at HN
  have hbb := nums_bytes s 0
  rw [(unhide HST).1] at HN hbb
  have H6 := hide (And.intro B6 hbw6)
  clear hR6 hb6 hs6 B6 hbw6 hA6 HX5
  go_wp2_with fail
  refine (unhide HN).mono ?_
  rintro e x7 ⟨rfl, hA7, hO7⟩
  have hgv : g < v := by omega
  have hg6 := (unhide H6).1.lt
  have B7 := (unhide H6).1.only hO7 (by omega)
  have hbw7 : Below g w x7 := (unhide H6).2.trans (hO7.below (B := g) (by omega) (fun q hq e => by omega))
  have HSS := hide (isStatus_any st0)
  clear hO7 HN H6
  have hst := (unhide HST).2
  rw [decide_eq_true hst] at HSS
  have HTR := hide (unhide HTK x7 v (unhide HS).1 hA7 (unhide HEW x7 hbw7))
  have H7 := hide (And.intro B7 hbw7)
  clear B7 hbw7 hA7
  go_wp2_with (first | (go_at_call 35; refine (unhide HSS _).mono ?_; rintro e x ⟨rfl, hx⟩; subst x))
  refine (unhide HTR).mono ?_
  rintro e x8 ⟨r, rfl, hM8, hO8⟩
  have hg7 := (unhide H7).1.lt
  have B8 := (unhide H7).1.only hO8 (by omega)
  have hbw8 : Below g w x8 := (unhide H7).2.trans (hO8.below (B := g) (by omega) (fun q hq e => by omega))
  obtain ⟨u, hu⟩ : ∃ u, x8.heap.size = u := ⟨_, rfl⟩
  obtain ⟨xa, hxa⟩ : ∃ Z, x8.alloc (.cells #[.int .i64 0, .int .i64 0, .int .i64 0, .slice none 0 0, .int .i64 0, .slice none 0 0, .string ⟨#[]⟩, .string ⟨#[]⟩] 34) = Z := ⟨_, rfl⟩
  obtain ⟨x9, hx9⟩ : ∃ Z, xa.setRow u r.cs = Z := ⟨_, rfl⟩
  have HBA := hide (show Blk xa u #[.int .i64 0, .int .i64 0, .int .i64 0, .slice none 0 0, .int .i64 0, .slice none 0 0, .string ⟨#[]⟩, .string ⟨#[]⟩] 34 from by rw [← hxa, ← hu]; exact Blk.new _ _ _)
  have HOR := hide (Rep.one r)
  have hg8 := B8.lt
  have hba : Below u x8 xa := by rw [← hxa, ← hu]; exact (Below.refl _ _).alloc (Nat.le_refl _) _
  have oU : Only (fun j => j = u) xa x9 := by rw [← hx9]; exact only_setRow (P := fun j => j = u) u _ rfl
  have B9 : Blk x9 g #[.int .i64 0, .int .i64 0, .int .i64 0, .slice none 0 0, .int .i64 0, .slice none 0 0, .string ⟨#[]⟩, .string ⟨#[]⟩] 34 := (B8.below hba (by omega)).only oU (by omega)
  have C9 : Blk x9 u r.cs 34 := by rw [← hx9]; exact blk_setRow (unhide HBA)
  have hbw9 : Below g w x9 := (hbw8.trans (hba.mono (by omega))).trans (oU.below (B := g) (by have := hba.size; omega) (fun q hq e => by omega))
  have HRG := hide (show x9.rangeAt u 0 r.cl from blk_range C9)
  have hx78 := hO8.size
  have hM9 : RM st0 x7.heap.size r a x9 := (hM8.only (P := fun _ => False) ((Only.of_below (P := fun _ => False) (show Below x8.heap.size x8 xa from by rw [hu]; exact hba)).trans oU (fun j hj q => by omega)) (fun _ _ _ q => q))
  have HM := hide (show RM st0 g r a (x9.setRow g r.cs) from (hM9.only (only_setRow (P := fun j => j = g) g _ rfl) (fun j hj _ e => by omega)).base (by omega))
  clear hO8 HTR H7 B8 hbw8 hba oU C9 HSS hM8 hM9 hx78
  have BT := blk_setRow (cells := r.cs) B9
  have HL := hide (iload_blk 34 _ BT Tryz.underlying34 rfl size_rep)
  have HZ := hide B9
  have HF2 := hide (show Below g w (x9.setRow g r.cs) from below_setRow hbw9 (Nat.le_refl _) _)
  clear BT
  go_wp2_with (first | refine wpList_store_row rfl 34 (.tmp 8) (.tmp 35) rfl u r.cs rfl rfl 34 #[.int .i64 0, .int .i64 0, .int .i64 0, .slice none 0 0, .int .i64 0, .slice none 0 0, .string ⟨#[]⟩, .string ⟨#[]⟩] (unhide HBA) size_rep rfl (unhide HOR) ?_ | refine wpList_load_mid rfl 34 (.tmp 8) rfl u 0 rfl r.cl _ (unhide HRG) Tryz.underlying34 rfl size_rep ?_ | refine wpList_store_row rfl 34 (.tmp 4) (.tmp 40) rfl g r.cs rfl rfl 34 #[.int .i64 0, .int .i64 0, .int .i64 0, .slice none 0 0, .int .i64 0, .slice none 0 0, .string ⟨#[]⟩, .string ⟨#[]⟩] (unhide HZ) size_rep rfl (unhide HOR) ?_)
  (try simp only [Exit.inBlock, Exit.then])
  refine bodyPost_ret (v := .tuple #[.agg r.cs, .int .i64 0]) (results_cell2 (p := 4) (q := 5) (ty := 34) rfl _ _ _ ⟨g, 0, none⟩ rfl _ (unhide HL)) rfl ?_
  exact ⟨r, rfl, unhide HM, unhide HF2⟩
end Go.Proofs.YtclgkgaobjcifaaGreatDoor

namespace Go.Proofs.YtclgkgaobjcifaaGreatDoor
open Go.RowKit
set_option maxRecDepth 100000
end Go.Proofs.YtclgkgaobjcifaaGreatDoor

namespace Go.Proofs.YtclgkgaobjcifaaGreatDoor
open Go.RowKit
theorem rpF_kinds {k : Nat} (hk : k ≤ 12) : k = 3 ∨ k = 6 ∨ k = 7 ∨ k = 8 ∨ k = 11 ∨ (rpF (k : Int) = [] ∧ ((k : Int) ≠ 3 ∧ (k : Int) ≠ 6 ∧ (k : Int) ≠ 7 ∧ (k : Int) ≠ 8 ∧ (k : Int) ≠ 11)) := by
  have : k = 0 ∨ k = 1 ∨ k = 2 ∨ k = 3 ∨ k = 4 ∨ k = 5 ∨ k = 6 ∨ k = 7 ∨ k = 8 ∨ k = 9 ∨ k = 10 ∨ k = 11 ∨ k = 12 := by omega
  rcases this with rfl | rfl | rfl | rfl | rfl | rfl | rfl | rfl | rfl | rfl | rfl | rfl | rfl <;> simp [rpF]
end Go.Proofs.YtclgkgaobjcifaaGreatDoor

namespace Go.Proofs.YtclgkgaobjcifaaGreatDoor
open Go.RowKit
set_option maxRecDepth 100000
def rq0 : Req := ⟨1, 3, 258, 0, 0, 0, ⟨#[]⟩, ⟨#[]⟩, ⟨#[]⟩, ⟨#[]⟩⟩
def rp0 : Rep := ⟨0, 258, 3, none, 0, 0, 0, none, 0, 0, ⟨#[]⟩, ⟨#[]⟩⟩
theorem lay_rq0 : layQ (rqF 1) rq0 = some (Req.bare 1, [3, 1, 2]) := by
  simp [layQ, rqF, exq, okF, byF, rq0, Req.bare, fTen, fQuo, Prt.num, Prt.nil, numB, List.range_succ]
theorem rq0_B : lqB rq0 = true := by
  have h : layQ (rqF rq0.kd) rq0 = some (Req.bare 1, [3, 1, 2]) := lay_rq0
  rw [lqB, h]
  simp [eqQ, Req.bare, rq0]
theorem rq0_L : eqL rq0 = [1, 3, 1, 2] := by
  have h : layQ (rqF rq0.kd) rq0 = some (Req.bare 1, [3, 1, 2]) := lay_rq0
  rw [eqL, lqL, h]
  simp [rq0, numB, List.range_succ]
theorem lay_rp0 : layR (rpF 7) rp0 = some (Rep.bare 0, [1, 2, 0, 3]) := by
  simp [layR, rpF, exr, okF, byF, rp0, Rep.bare, fQuo, fCha, Prt.num, Prt.nil, numB, List.range_succ]
theorem rp0_B : lrB 7 rp0 = true := by
  rw [lrB, lay_rp0]
  simp [bareP, Rep.bare]
theorem rp0_L : epL 7 rp0 = [0, 1, 2, 0, 3] := by
  rw [epL, lrL, lay_rp0]
  simp [rp0, numB, List.range_succ]
theorem front_str (a b : List Int) (n : Nat) (hn : n = a.length) : (strOfNums a ++ strOfNums b).extract 0 n = strOfNums a := by
  subst hn
  apply ByteArray.ext
  simp [strOfNums, ByteArray.data_extract, ByteArray.data_append]
theorem built_rq0 : Tryz.prog.built 29 [(0, .int .i64 1), (1, .int .i64 3), (2, .int .i64 258)] = some rq0.cs := by kernel_rfl
theorem built_rp0 : Tryz.prog.built 34 [(1, .int .i64 258), (2, .int .i64 3)] = some rp0.cs := by kernel_rfl
set_option maxHeartbeats 2000000 in
theorem known12_any (w : World) : Calls Tryz.prog 8 #[] w fun e w' => e = .returned (.bool true) ∧ Below w.heap.size w w' := by
  have hE := encodeRequest_any rq0
  have e1 : encQ rq0 = strOfNums [1, 3, 1, 2] ++ strOfNums (le4 (chkN [1, 3, 1, 2])) := by
    rw [encQ, if_pos (by decide), if_pos rq0_B, rq0_L]
  have e2 : errQ rq0 = 0 := by rw [errQ, if_pos (by decide), if_pos rq0_B]
  rw [e1, e2] at hE
  have hP := fun W => encodeReply_full 7 (by decide) rp0 (by decide) (by decide) (by intro f hf; simp [rpF] at hf; rcases hf with rfl | rfl <;> simp [IsN]) rp0_B W
  have e3 : epL ((7 : Nat) : Int) rp0 = [0, 1, 2, 0, 3] := rp0_L
  rw [e3] at hP
  have l4 : ∀ c : Nat, (strOfNums (le4 c)).size = 4 := fun c => by rw [strOfNums_size]; rfl
  have s1 : (strOfNums [1, 3, 1, 2] ++ strOfNums (le4 (chkN [1, 3, 1, 2]))).size = 8 := by rw [ByteArray.size_append, strOfNums_size, l4]; rfl
  have x1 : (strOfNums [1, 3, 1, 2] ++ strOfNums (le4 (chkN [1, 3, 1, 2]))).extract 0 4 = ⟨#[1, 3, 1, 2]⟩ := front_str _ _ 4 rfl
  have s2 : (strOfNums [0, 1, 2, 0, 3] ++ strOfNums (le4 (chkN (((7 : Nat) : Int) :: [0, 1, 2, 0, 3])))).size = 9 := by rw [ByteArray.size_append, strOfNums_size, l4]; rfl
  have x2 : (strOfNums [0, 1, 2, 0, 3] ++ strOfNums (le4 (chkN (((7 : Nat) : Int) :: [0, 1, 2, 0, 3])))).extract 0 5 = ⟨#[0, 1, 2, 0, 3]⟩ := front_str _ _ 5 rfl
  have HE := hide hE
  have HP := hide hP
  clear hE hP e1 e2 e3 l4
  generalize strOfNums [1, 3, 1, 2] ++ strOfNums (le4 (chkN [1, 3, 1, 2])) = S at *
  generalize strOfNums [0, 1, 2, 0, 3] ++ strOfNums (le4 (chkN (((7 : Nat) : Int) :: [0, 1, 2, 0, 3]))) = T at *
  have HB1 := hide built_rq0
  have HB2 := hide built_rp0
  go_enter Tryz.func8, Tryz.ntmps8
  go_wp2_with (first | refine wpList_buildAs rfl 29 #[(0, .const (.int .i64 1)), (1, .const (.int .i64 3)), (2, .const (.int .i64 258))] rfl _ rfl rq0.cs (unhide HB1) ?_)
  refine (unhide HE _).mono ?_
  rintro e y ⟨rfl, hy⟩
  have HY := hide hy
  clear hy
  go_wp2_with (first | refine wpList_buildAs rfl 34 #[(1, .const (.int .i64 258)), (2, .const (.int .i64 3))] rfl _ rfl rp0.cs (unhide HB2) ?_)
  refine (unhide HP _).mono ?_
  rintro e z ⟨rfl, hz⟩
  have HZ := hide hz
  clear hz
  go_wp2
  go_ret
  exact ⟨rfl, (unhide HY).trans ((unhide HZ).mono (unhide HY).size)⟩
end Go.Proofs.YtclgkgaobjcifaaGreatDoor

namespace Go.Proofs.YtclgkgaobjcifaaGreatDoor
open Go.RowKit
set_option maxRecDepth 100000
theorem le4_len (c : Nat) : (le4 c).length = 4 := rfl
theorem szP_le (k : Int) : szF (rpF k) ≤ 1024 := by
  have h1 := szF_le (rpF k) (fun f hf => (rpF_all k f hf).isF)
  have h2 := rpF_len k
  omega
/-- a frame in numbers -/
theorem frm_nums (E : List Int) (hE : Bytes E) (L : List Int) : nums (strOfNums E ++ strOfNums (le4 (chkN L))) = E ++ le4 (chkN L) := by
  rw [nums_app, nums_strOfNums _ hE, nums_strOfNums _ (le4_bytes _ (chkN_lt _))]
theorem frm_size (E L : List Int) : (strOfNums E ++ strOfNums (le4 (chkN L))).size = E.length + 4 := by
  rw [ByteArray.size_append, strOfNums_size, strOfNums_size]; rfl
theorem lyL_full (k : Int) (r : Rep) (V Pl : List Int) (h : lyB k r V Pl = true) : (lyL k r V Pl).length = szF (rpF k) := by
  unfold lyB at h
  unfold lyL
  by_cases q : fullP k r.st = true
  · rw [if_pos q] at h ⊢
    unfold lgB at h
    unfold lgL
    cases e : layG V Pl (rpF k) r with
    | none => rw [e] at h; exact absurd (show false = true from h) (by decide)
    | some x => exact (layG_len V Pl _ (rpF_all k) r x e).1
  · rw [if_neg q, List.length_replicate]
theorem kB_nums (k : Nat) (hk : k ≤ 12) : nums (strOfNums [(k : Int)]) = [(k : Int)] := nums_strOfNums _ (fun j => by
  cases j with
  | zero => simp; omega
  | succ j => simp)
theorem eyL_form (k : Nat) (r : Rep) (V Pl : List Int) (h : lyB (k : Int) r V Pl = true) : (eyL (k : Int) r V Pl).length = 1 + szF (rpF (k : Int)) ∧ Bytes (eyL (k : Int) r V Pl) := by
  refine ⟨?_, Bytes.app (numB_bytes _ _) (lyL_len _ r V Pl).2⟩
  rw [eyL, List.length_append, numB_len, lyL_full _ _ _ _ h]
end Go.Proofs.YtclgkgaobjcifaaGreatDoor

namespace Go.Proofs.YtclgkgaobjcifaaGreatDoor
open Go.RowKit
set_option maxRecDepth 100000
theorem nums_cut (s : ByteArray) (i b : Nat) : nums (s.extract i (i + b)) = ((nums s).drop i).take b := by
  rw [nums_extract, List.drop_take]
  congr 1
  omega
theorem be2 (n : Int) (h0 : 0 ≤ n) (h : n ≤ 65535) : beN (numB n 2) = n := by
  simp [numB, List.range, List.range.loop, beN]; omega
theorem be4 (n : Int) (h0 : 0 ≤ n) (h : n ≤ 4294967295) : beN (numB n 4) = n := by
  simp [numB, List.range, List.range.loop, beN]; omega
theorem cut_txt (s t : ByteArray) (i b : Nat) (h : ((nums s).drop i).take b = nums t) : s.extract i (i + b) = t := nums_inj (by rw [nums_cut, h])
theorem ckB_true (ah s : ByteArray) (E : List Int) (hs : nums s = E ++ le4 (chkN (nums ah ++ E))) : ckB ah s = true := by
  have hz : s.size = E.length + 4 := by rw [← nums_len, hs, List.length_append, le4_len]
  have e1 : nums (ah ++ s.extract 0 (s.size - 4)) = nums ah ++ E := by
    rw [nums_app, nums_extract, List.drop_zero, hs, hz, Nat.add_sub_cancel, List.take_left' rfl]
  have e2 : s.extract (s.size - 4) s.size = strOfNums (le4 (chkN (nums ah ++ E))) := nums_inj (by
    rw [nums_tail, nums_strOfNums _ (le4_bytes _ (chkN_lt _)), hs, hz, Nat.add_sub_cancel, List.drop_left' rfl])
  unfold ckB
  rw [e1, e2]
  exact beq_self_eq_true _
end Go.Proofs.YtclgkgaobjcifaaGreatDoor
