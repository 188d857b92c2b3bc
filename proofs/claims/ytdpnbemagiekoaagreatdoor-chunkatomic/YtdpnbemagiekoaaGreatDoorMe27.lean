import Derived.Test.YtdpnbemagiekoaaGreatDoorMe26
set_option maxHeartbeats 1000000
set_option maxRecDepth 100000
namespace Go.Proofs.YtdpnbemagiekoaaGreatDoor
open List renaming getElem_toArray -> lD, getElem_cons_succ -> lE, getElem_cons_zero -> lF
section
open Go.RowKit Go.Maps
theorem zCF {w : World} (b o : Nat) (vs : List Value) {P : Nat -> Prop} (hP : P b) : Only P w (w.setCells b o vs) := by
 induction vs generalizing w o with
 | nil => exact Only.refl _ _
 | cons v r ih =>
  rw [World.setCells]
  exact ((Only.refl P w).setCell ⟨b, o, none⟩ v (fun _ => hP)).trans (ih _) (fun _ _ q => q)
theorem zBj (b : Nat) : ∀ (vs : List Value) (o : Nat) (w : World), w.drew.setCells b o vs = (w.setCells b o vs).drew
 | [], _, _ => rfl
 | v :: r, o, w => by
  rw [World.setCells, World.setCells]
  exact zBj b r (o + 1) (w.setCell ⟨b, o, none⟩ v)
theorem zKw (T : Nat -> En) (p : Nat) (a e : En) : upd (upd T p a) p e = upd T p e := by
 funext i
 unfold upd
 split <;> rfl
theorem zFW (T : Nat -> En) (p : Nat) (e : En) (h : T p = e) : upd T p e = T := by
 funext i
 unfold upd
 split
 ·rename_i q; rw [q]; exact h.symm
 ·rfl
def zBI (mb mo eb bm n : Nat) (T : Nat -> En) (w w' : World) : Prop := MM w' mb mo eb bm n T /\ Only (fun x => x = eb ∨ x = bm) w w'
theorem PM.drewI {w : World} {bm n : Nat} {T : Nat -> En} (h : PM w bm n T) : PM w.drew bm n T := h
theorem zOe {w : World} {mb mo eb bm n : Nat} {T : Nat -> En} (h : MM w mb mo eb bm n T) (hT : TOk n T) (hn : n <= 1024) (p : Nat) (hp : p < n) (vv : En) (hV : vv = none) (hw : T p = vv) (ee : En) (hE : ee = none) (he : EnOk ee) :
  Calls Tryz.prog 110 #[.pointer (some ⟨mb, mo, none⟩), .int .i64 (p : Int), .agg (enC (ee)).toArray] w fun e w' => e = .returned (.tuple #[]) /\ zBI mb mo eb bm n (upd T p (ee)) w w' := by
 have hok := hT.ok p
 rw [hw] at hok
 have HEL := uB (zA0 (ee) he)
 have HWL := uB (zA0 (vv) hok)
 have HE1 := uB (zBV (ee))
 have HW1 := uB (zBV (vv))
 obtain ⟨x1, hx1⟩ : ∃ q, w.alloc (.cells (enC (ee)).toArray 104) = q := ⟨_, rfl⟩
 obtain ⟨g, hg⟩ : ∃ g, w.heap.size = g := ⟨_, rfl⟩
 have hb1 : Below g w x1 := by rw [<- hx1, <- hg]; exact (Below.refl _ w).alloc (Nat.le_refl _) _
 have hs1 : x1.heap.size = g + 1 := by rw [<- hx1, <- hg]; simp
 have G1 : Blk x1 g (enC (ee)).toArray 104 := by rw [<- hx1, <- hg]; exact Blk.new w _ _
 have M1 : MM x1 mb mo eb bm n T := h.below (by rw [hg]; exact hb1)
 have hlt : mb < g /\ eb < g /\ bm < g := ⟨by rw [<- hg]; exact h.lt, by rw [<- hg]; exact h.er.lt, by rw [<- hg]; exact h.pm.lt⟩
 have cs0 := M1.c0
 have HR := uB (M1.er.range p hp)
 rw [hw] at HR
 obtain ⟨x2, hx2⟩ : ∃ q, x1.alloc (.cells #[.int .u8 0, .int .u8 0, .int .u8 0, .int .u8 0, .int .u8 0, .int .u8 0, .int .u8 0, .int .u8 0, .int .u8 0, .int .u8 0, .int .u8 0, .int .u8 0, .int .u8 0, .int .u8 0, .int .u8 0, .int .u8 0, .int .u8 0, .int .u8 0, .int .u8 0, .int .u8 0, .int .u8 0, .int .u8 0, .int .u8 0, .int .u8 0, .int .u8 0, .int .u8 0, .int .u8 0, .int .u8 0, .int .u8 0, .int .u8 0, .int .u8 0, .int .u8 0, .int .i64 0] 104) = q := ⟨_, rfl⟩
 have BZ : Blk x2 (g + 1) #[.int .u8 0, .int .u8 0, .int .u8 0, .int .u8 0, .int .u8 0, .int .u8 0, .int .u8 0, .int .u8 0, .int .u8 0, .int .u8 0, .int .u8 0, .int .u8 0, .int .u8 0, .int .u8 0, .int .u8 0, .int .u8 0, .int .u8 0, .int .u8 0, .int .u8 0, .int .u8 0, .int .u8 0, .int .u8 0, .int .u8 0, .int .u8 0, .int .u8 0, .int .u8 0, .int .u8 0, .int .u8 0, .int .u8 0, .int .u8 0, .int .u8 0, .int .u8 0, .int .i64 0] 104 := by rw [<- hx2, <- hs1]; exact Blk.new x1 _ _
 have HTZ := uB (zAN BZ 33 rfl)
 obtain ⟨x3, hx3⟩ : ∃ q, x2.setCells (g + 1) 0 (enC (vv)) = q := ⟨_, rfl⟩
 have W3 : Blk x3 (g + 1) (enC (vv)).toArray 104 := by
  rw [<- hx3]
  have := zAr (enC (vv)) [] [] BZ (#[.int .u8 0, .int .u8 0, .int .u8 0, .int .u8 0, .int .u8 0, .int .u8 0, .int .u8 0, .int .u8 0, .int .u8 0, .int .u8 0, .int .u8 0, .int .u8 0, .int .u8 0, .int .u8 0, .int .u8 0, .int .u8 0, .int .u8 0, .int .u8 0, .int .u8 0, .int .u8 0, .int .u8 0, .int .u8 0, .int .u8 0, .int .u8 0, .int .u8 0, .int .u8 0, .int .u8 0, .int .u8 0, .int .u8 0, .int .u8 0, .int .u8 0, .int .u8 0, .int .i64 0] : Array Value).toList (by rw [uA HWL]; rfl) (by simp)
  simpa using this
 have G3 : Blk x3 g (enC (ee)).toArray 104 := by rw [<- hx3, <- hx2]; exact zAA _ _ (G1.alloc _) (g + 1) (by omega)
 have L3 : Below g w x3 := by rw [<- hx3, <- hx2]; exact zAc (by omega) _ _ (hb1.alloc (by omega) _)
 have HRW := uB (zAn (zAg _ hok) W3).2.1
 have HNO := uB (zAD (enD (vv)) (zAg _ hok) (enT (vv) : Int) x3)
 rw [show (((enT (vv) : Nat) : Int) == 0) = true by rw [hV]; rfl] at HNO
 have X3 := uB (And.intro W3 (And.intro G3 L3))
 have HIX := uB (And.intro hp hn)
 have HT := uB hT
 have HM := uB h
 have HOK := uB (And.intro hok he)
 have HWW := uB hw
 have i0 : (0 : Int) <= (p : Int) := by omega
 have i1 : (p : Int) < (n : Int) := by omega
 have HLT := uB hlt
 have HVV := uB hV
 have HEE := uB hE
 clear h hT hw hV hE hb1 G1 M1 BZ W3 G3 L3 hp hok he hlt
 have HS1 := uB hs1
 have HX3 := uB hx3
 have HX2 := uB hx2
 have HG := uB hg
 clear hs1 hx3 hx2
 go_enter Tryz.func110, Tryz.ntmps110
 go_wp2_with (first | refine wpList_load_mid rfl 104 (.tmp 12) rfl eb (p * 33) (by rfl) _ _ (uA HR) Tryz.underlying104 rfl (by rw [zAk]; exact congrArg some (uA HWL).symm) ?_ | refine wpList_store_mid rfl 104 (.tmp 6) (.tmp 13) rfl (g + 1) 0 (enC (vv)).toArray (by rw [<- uA HS1]; rfl) rfl (by rw [List.size_toArray, uA HWL, uA HX2]; exact uA HTZ) (by rw [zAk, List.size_toArray, uA HWL]) (uA HW1) ?_ | refine wpList_load_mid rfl 104 (.tmp 6) rfl (g + 1) 0 (by rw [<- uA HS1]; rfl) _ _ (by rw [uA HX2, uA HX3]; exact uA HRW) Tryz.underlying104 rfl (by rw [zAk]; exact congrArg some (uA HWL).symm) ?_)
 rw [uA HX2, uA HX3, uA HS1]
 refine (uA HNO).mono ?_
 rintro e x4 ⟨rfl, hb4⟩
 have hg3 := (uA X3).2.1.lt
 have hg3' := (uA X3).1.lt
 have W4 : Blk x4 (g + 1) (enC (vv)).toArray 104 := (uA X3).1.below hb4 hg3'
 have G4 : Blk x4 g (enC (ee)).toArray 104 := (uA X3).2.1.below hb4 hg3
 have L4 : Below g w x4 := (uA X3).2.2.trans (hb4.mono (by omega))
 have M4 : MM x4 mb mo eb bm n T := (uA HM).below (by rw [uA HG]; exact L4)
 have X4 := uB (And.intro W4 (And.intro G4 (And.intro L4 M4)))
 clear hb4 hg3 hg3' X3 HNO HRW HR cs0 HTZ HX2 HX3
 have Y5 := uB (show x4.cell? ⟨mb, mo, none⟩ = some (.slice (some ⟨eb, 0, none⟩) n n) /\ x4.cell? ⟨mb, mo + 1, none⟩ = some (.map (some bm)) /\ ER x4 eb n T /\ PM x4 bm n (upd T p none) /\ Blk x4 g (enC (ee)).toArray 104 /\ Only (fun x => x = eb ∨ x = bm) w x4 from
  ⟨M4.c0, M4.c1, M4.er, by rw [zFW T p none ((uA HWW).trans (uA HVV))]; exact M4.pm, G4, Only.of_below (P := fun x => x = eb ∨ x = bm) (by rw [uA HG]; exact L4)⟩)
 obtain ⟨x5, hx5⟩ : ∃ q, x4 = q := ⟨_, rfl⟩
 subst hx5
 clear W4 G4 L4 M4 X4
 obtain ⟨q1, q2, q3, q4, q5, q6⟩ := uA Y5
 have R5 := (zAn (zAg _ (uA HOK).2) q5).2.1
 have hth := uB (show World.there x4.drew eb (p * 33) 33 from q3.there p (uA HIX).1)
 obtain ⟨x6, hx6⟩ : ∃ q, x4.setCells eb (p * 33) (enC (ee)) = q := ⟨_, rfl⟩
 have hge : g ≠ eb := by have := (uA HLT).2.1; omega
 have O6 : Only (fun x => x = eb) x4 x6 := by rw [<- hx6]; exact zCF eb _ _ rfl
 have E6 : ER x6 eb n (upd T p (ee)) := by rw [<- hx6]; exact q3.set p (uA HIX).1 _ (uA HOK).2
 have G6 : Blk x6 g (enC (ee)).toArray 104 := q5.only O6 hge
 have c06 : x6.cell? ⟨mb, mo, none⟩ = some (.slice (some ⟨eb, 0, none⟩) n n) := by rw [World.cell?_of_block (a := ⟨mb, mo, none⟩) (O6.2 mb (Nat.lt_of_lt_of_le (uA HM).lt q6.size) (uA HM).ne)]; exact q1
 have c16 : x6.cell? ⟨mb, mo + 1, none⟩ = some (.map (some bm)) := by rw [World.cell?_of_block (a := ⟨mb, mo + 1, none⟩) (O6.2 mb (Nat.lt_of_lt_of_le (uA HM).lt q6.size) (uA HM).ne)]; exact q2
 have P6 : PM x6 bm n (upd T p none) := q4.only O6 (fun q => (uA HM).nx q.symm)
 have R6 := (zAn (zAg _ (uA HOK).2) G6).2.1
 have Y6 := uB (And.intro c06 (And.intro c16 (And.intro E6 (And.intro P6 (And.intro G6 (q6.trans O6 (fun _ _ q => .inl q)))))))
 have HX6 := uB hx6
 have HGE := uB hge
 clear q2 q3 q4 q5 q6 O6 E6 G6 P6 c16 hx6 hge Y5
 go_wp2
 refine wp_region_held_drew (S := fun w' => w'.cell? ⟨mb, mo, none⟩ = some (.slice (some ⟨eb, 0, none⟩) n n) /\ w'.rangeAt g 0 (enC (ee))) (by kernel_rfl) ⟨q1, R5⟩ ?_
 intro hS
 refine yL 0 (some 23) (.pointer (some ⟨mb, mo, none⟩)) rfl (fun w hSw => by obtain ⟨q1, q2⟩ := hSw; clear q2; go_simp) hS ?_
 refine yL 1 (some 24) (.pointer (some ⟨mb, mo, none⟩)) rfl (fun w hSw => by obtain ⟨q1, q2⟩ := hSw; clear q2; go_simp) hS ?_
 refine yL 2 (some 25) (.pointer (some ⟨mb, mo, none⟩)) rfl (fun w hSw => by obtain ⟨q1, q2⟩ := hSw; clear q2; go_simp) hS ?_
 refine yL 3 (some 26) (.slice (some ⟨eb, 0, none⟩) n n) rfl (fun w hSw => by obtain ⟨q1, q2⟩ := hSw; clear q2; go_simp) hS ?_
 refine yL 4 (some 27) (.int .i64 (p : Int)) rfl (fun w hSw => by obtain ⟨q1, q2⟩ := hSw; clear q2; go_simp) hS ?_
 refine yK 5 (some 28) (.agg (enC (ee)).toArray) rfl (yieldsIf_load_mid (by rfl) 104 (.tmp 5) rfl g 0 rfl _ _ (fun w h => h.2) Tryz.underlying104 rfl (by rw [zAk, uA HEL])) hS ?_
 refine yL 6 (some 29) (.pointer (some ⟨eb, p * 33, none⟩)) rfl (fun w hSw => by obtain ⟨q1, q2⟩ := hSw; clear q2; go_simp) hS ?_
 refine wpAnyH_ready (rs := [7]) (by kernel_rfl) (by simp) ?_
 refine AllReadyH.cons rfl (fun K hK => ?_) AllReadyH.nil
 simp only [lD, lE, lF]
 rw [if_pos (by rfl)]
 refine wp_store_mid 104 (.tmp 29) (.tmp 28) rfl eb (p * 33) (enC (ee)).toArray rfl rfl (by rw [List.size_toArray, uA HEL]; exact uA hth) (by rw [zAk, List.size_toArray, uA HEL]) (uA HE1) ?_
 rw [zBj, uA HX6]
 clear q1 R5
 refine hK.out _ _ ⟨c06, R6⟩ (fun hS => ?_)
 clear hK K
 refine wpAnyH_done (by kernel_rfl) ?_ _
 have HR6 := uB R6
 have HNE := uB (zAD (enD (ee)) (zAg _ (uA HOK).2) (enT (ee) : Int) x6.drew)
 rw [show (((enT (ee) : Nat) : Int) == 0) = true by rw [uA HEE]; rfl] at HNE
 clear hS c06 R6 hth
 go_wp2_with (refine wpList_load_mid rfl 104 (.tmp 5) rfl g 0 (by rfl) _ _ (uA HR6) Tryz.underlying104 rfl (by rw [zAk]; exact congrArg some (uA HEL).symm) ?_)
 refine (uA HNE).mono ?_
 rintro e x7 ⟨rfl, hb7⟩
 obtain ⟨c06, c16, E6, P6, G6, O6⟩ := uA Y6
 have hb7' : Below x6.heap.size x6 x7 := ((Below.refl _ x6).drew).trans hb7
 have hml : mb < x6.heap.size := Nat.lt_of_lt_of_le (uA HM).lt O6.size
 have c07 : x7.cell? ⟨mb, mo, none⟩ = some (.slice (some ⟨eb, 0, none⟩) n n) := by rw [hb7'.cell (p := ⟨mb, mo, none⟩) hml]; exact c06
 have c17 : x7.cell? ⟨mb, mo + 1, none⟩ = some (.map (some bm)) := by rw [hb7'.cell (p := ⟨mb, mo + 1, none⟩) hml]; exact c16
 have E7 := E6.below hb7'
 have P7 := P6.below hb7'
 have G7 := G6.below hb7' G6.lt
 have O7 : Only (fun x => x = eb ∨ x = bm) w x7 := O6.trans (Only.of_below (P := fun x => x = eb ∨ x = bm) hb7') (fun _ _ q => q)
 have hml7 : mb < x7.heap.size := Nat.lt_of_lt_of_le hml hb7'.size
 clear hb7 hb7' c06 c16 E6 P6 G6 O6 Y6 HNE HR6 hml
 have Y7 := uB (show zBI mb mo eb bm n (upd T p ee) w x7 from ⟨⟨c07, c17, E7, by rw [uA HEE]; exact P7, (uA HM).ne, (uA HM).nb, (uA HM).nx, hml7⟩, O7⟩)
 clear c07 c17 E7 P7 G7 O7 hml7
 go_wp2
 go_end0
 exact ⟨rfl, uA Y7⟩
theorem zOq {w : World} {mb mo eb bm n : Nat} {T : Nat -> En} (h : MM w mb mo eb bm n T) (hT : TOk n T) (hn : n <= 1024) (p : Nat) (hp : p < n) (vv : En) (hV : vv = none) (hw : T p = vv) (d : ByteArray) (c : Nat) (he : EnOk (some (d, c))) (hf : ∀ j c', T j = some (d, c') -> j = p) :
  Calls Tryz.prog 110 #[.pointer (some ⟨mb, mo, none⟩), .int .i64 (p : Int), .agg (enC (some (d, c))).toArray] w fun e w' => e = .returned (.tuple #[]) /\ zBI mb mo eb bm n (upd T p (some (d, c))) w w' := by
 have hok := hT.ok p
 rw [hw] at hok
 have HEL := uB (zA0 (some (d, c)) he)
 have HWL := uB (zA0 (vv) hok)
 have HE1 := uB (zBV (some (d, c)))
 have HW1 := uB (zBV (vv))
 obtain ⟨x1, hx1⟩ : ∃ q, w.alloc (.cells (enC (some (d, c))).toArray 104) = q := ⟨_, rfl⟩
 obtain ⟨g, hg⟩ : ∃ g, w.heap.size = g := ⟨_, rfl⟩
 have hb1 : Below g w x1 := by rw [<- hx1, <- hg]; exact (Below.refl _ w).alloc (Nat.le_refl _) _
 have hs1 : x1.heap.size = g + 1 := by rw [<- hx1, <- hg]; simp
 have G1 : Blk x1 g (enC (some (d, c))).toArray 104 := by rw [<- hx1, <- hg]; exact Blk.new w _ _
 have M1 : MM x1 mb mo eb bm n T := h.below (by rw [hg]; exact hb1)
 have hlt : mb < g /\ eb < g /\ bm < g := ⟨by rw [<- hg]; exact h.lt, by rw [<- hg]; exact h.er.lt, by rw [<- hg]; exact h.pm.lt⟩
 have cs0 := M1.c0
 have HR := uB (M1.er.range p hp)
 rw [hw] at HR
 obtain ⟨x2, hx2⟩ : ∃ q, x1.alloc (.cells #[.int .u8 0, .int .u8 0, .int .u8 0, .int .u8 0, .int .u8 0, .int .u8 0, .int .u8 0, .int .u8 0, .int .u8 0, .int .u8 0, .int .u8 0, .int .u8 0, .int .u8 0, .int .u8 0, .int .u8 0, .int .u8 0, .int .u8 0, .int .u8 0, .int .u8 0, .int .u8 0, .int .u8 0, .int .u8 0, .int .u8 0, .int .u8 0, .int .u8 0, .int .u8 0, .int .u8 0, .int .u8 0, .int .u8 0, .int .u8 0, .int .u8 0, .int .u8 0, .int .i64 0] 104) = q := ⟨_, rfl⟩
 have BZ : Blk x2 (g + 1) #[.int .u8 0, .int .u8 0, .int .u8 0, .int .u8 0, .int .u8 0, .int .u8 0, .int .u8 0, .int .u8 0, .int .u8 0, .int .u8 0, .int .u8 0, .int .u8 0, .int .u8 0, .int .u8 0, .int .u8 0, .int .u8 0, .int .u8 0, .int .u8 0, .int .u8 0, .int .u8 0, .int .u8 0, .int .u8 0, .int .u8 0, .int .u8 0, .int .u8 0, .int .u8 0, .int .u8 0, .int .u8 0, .int .u8 0, .int .u8 0, .int .u8 0, .int .u8 0, .int .i64 0] 104 := by rw [<- hx2, <- hs1]; exact Blk.new x1 _ _
 have HTZ := uB (zAN BZ 33 rfl)
 obtain ⟨x3, hx3⟩ : ∃ q, x2.setCells (g + 1) 0 (enC (vv)) = q := ⟨_, rfl⟩
 have W3 : Blk x3 (g + 1) (enC (vv)).toArray 104 := by
  rw [<- hx3]
  have := zAr (enC (vv)) [] [] BZ (#[.int .u8 0, .int .u8 0, .int .u8 0, .int .u8 0, .int .u8 0, .int .u8 0, .int .u8 0, .int .u8 0, .int .u8 0, .int .u8 0, .int .u8 0, .int .u8 0, .int .u8 0, .int .u8 0, .int .u8 0, .int .u8 0, .int .u8 0, .int .u8 0, .int .u8 0, .int .u8 0, .int .u8 0, .int .u8 0, .int .u8 0, .int .u8 0, .int .u8 0, .int .u8 0, .int .u8 0, .int .u8 0, .int .u8 0, .int .u8 0, .int .u8 0, .int .u8 0, .int .i64 0] : Array Value).toList (by rw [uA HWL]; rfl) (by simp)
  simpa using this
 have G3 : Blk x3 g (enC (some (d, c))).toArray 104 := by rw [<- hx3, <- hx2]; exact zAA _ _ (G1.alloc _) (g + 1) (by omega)
 have L3 : Below g w x3 := by rw [<- hx3, <- hx2]; exact zAc (by omega) _ _ (hb1.alloc (by omega) _)
 have HRW := uB (zAn (zAg _ hok) W3).2.1
 have HNO := uB (zAD (enD (vv)) (zAg _ hok) (enT (vv) : Int) x3)
 rw [show (((enT (vv) : Nat) : Int) == 0) = true by rw [hV]; rfl] at HNO
 have X3 := uB (And.intro W3 (And.intro G3 L3))
 have HIX := uB (And.intro hp hn)
 have HT := uB hT
 have HM := uB h
 have HOK := uB (And.intro hok he)
 have HWW := uB hw
 have i0 : (0 : Int) <= (p : Int) := by omega
 have i1 : (p : Int) < (n : Int) := by omega
 have HLT := uB hlt
 have HVV := uB hV
 clear h hT hw hV hb1 G1 M1 BZ W3 G3 L3 hp hok he hlt
 have HS1 := uB hs1
 have HX3 := uB hx3
 have HX2 := uB hx2
 have HG := uB hg
 clear hs1 hx3 hx2
 go_enter Tryz.func110, Tryz.ntmps110
 go_wp2_with (first | refine wpList_load_mid rfl 104 (.tmp 12) rfl eb (p * 33) (by rfl) _ _ (uA HR) Tryz.underlying104 rfl (by rw [zAk]; exact congrArg some (uA HWL).symm) ?_ | refine wpList_store_mid rfl 104 (.tmp 6) (.tmp 13) rfl (g + 1) 0 (enC (vv)).toArray (by rw [<- uA HS1]; rfl) rfl (by rw [List.size_toArray, uA HWL, uA HX2]; exact uA HTZ) (by rw [zAk, List.size_toArray, uA HWL]) (uA HW1) ?_ | refine wpList_load_mid rfl 104 (.tmp 6) rfl (g + 1) 0 (by rw [<- uA HS1]; rfl) _ _ (by rw [uA HX2, uA HX3]; exact uA HRW) Tryz.underlying104 rfl (by rw [zAk]; exact congrArg some (uA HWL).symm) ?_)
 rw [uA HX2, uA HX3, uA HS1]
 refine (uA HNO).mono ?_
 rintro e x4 ⟨rfl, hb4⟩
 have hg3 := (uA X3).2.1.lt
 have hg3' := (uA X3).1.lt
 have W4 : Blk x4 (g + 1) (enC (vv)).toArray 104 := (uA X3).1.below hb4 hg3'
 have G4 : Blk x4 g (enC (some (d, c))).toArray 104 := (uA X3).2.1.below hb4 hg3
 have L4 : Below g w x4 := (uA X3).2.2.trans (hb4.mono (by omega))
 have M4 : MM x4 mb mo eb bm n T := (uA HM).below (by rw [uA HG]; exact L4)
 have X4 := uB (And.intro W4 (And.intro G4 (And.intro L4 M4)))
 clear hb4 hg3 hg3' X3 HNO HRW HR cs0 HTZ HX2 HX3
 have Y5 := uB (show x4.cell? ⟨mb, mo, none⟩ = some (.slice (some ⟨eb, 0, none⟩) n n) /\ x4.cell? ⟨mb, mo + 1, none⟩ = some (.map (some bm)) /\ ER x4 eb n T /\ PM x4 bm n (upd T p none) /\ Blk x4 g (enC (some (d, c))).toArray 104 /\ Only (fun x => x = eb ∨ x = bm) w x4 from
  ⟨M4.c0, M4.c1, M4.er, by rw [zFW T p none ((uA HWW).trans (uA HVV))]; exact M4.pm, G4, Only.of_below (P := fun x => x = eb ∨ x = bm) (by rw [uA HG]; exact L4)⟩)
 obtain ⟨x5, hx5⟩ : ∃ q, x4 = q := ⟨_, rfl⟩
 subst hx5
 clear W4 G4 L4 M4 X4
 obtain ⟨q1, q2, q3, q4, q5, q6⟩ := uA Y5
 have R5 := (zAn (zAg _ (uA HOK).2) q5).2.1
 have hth := uB (show World.there x4.drew eb (p * 33) 33 from q3.there p (uA HIX).1)
 obtain ⟨x6, hx6⟩ : ∃ q, x4.setCells eb (p * 33) (enC (some (d, c))) = q := ⟨_, rfl⟩
 have hge : g ≠ eb := by have := (uA HLT).2.1; omega
 have O6 : Only (fun x => x = eb) x4 x6 := by rw [<- hx6]; exact zCF eb _ _ rfl
 have E6 : ER x6 eb n (upd T p (some (d, c))) := by rw [<- hx6]; exact q3.set p (uA HIX).1 _ (uA HOK).2
 have G6 : Blk x6 g (enC (some (d, c))).toArray 104 := q5.only O6 hge
 have c06 : x6.cell? ⟨mb, mo, none⟩ = some (.slice (some ⟨eb, 0, none⟩) n n) := by rw [World.cell?_of_block (a := ⟨mb, mo, none⟩) (O6.2 mb (Nat.lt_of_lt_of_le (uA HM).lt q6.size) (uA HM).ne)]; exact q1
 have c16 : x6.cell? ⟨mb, mo + 1, none⟩ = some (.map (some bm)) := by rw [World.cell?_of_block (a := ⟨mb, mo + 1, none⟩) (O6.2 mb (Nat.lt_of_lt_of_le (uA HM).lt q6.size) (uA HM).ne)]; exact q2
 have P6 : PM x6 bm n (upd T p none) := q4.only O6 (fun q => (uA HM).nx q.symm)
 have R6 := (zAn (zAg _ (uA HOK).2) G6).2.1
 have Y6 := uB (And.intro c06 (And.intro c16 (And.intro E6 (And.intro P6 (And.intro G6 (q6.trans O6 (fun _ _ q => .inl q)))))))
 have HX6 := uB hx6
 have HGE := uB hge
 clear q2 q3 q4 q5 q6 O6 E6 G6 P6 c16 hx6 hge Y5
 go_wp2
 refine wp_region_held_drew (S := fun w' => w'.cell? ⟨mb, mo, none⟩ = some (.slice (some ⟨eb, 0, none⟩) n n) /\ w'.rangeAt g 0 (enC (some (d, c)))) (by kernel_rfl) ⟨q1, R5⟩ ?_
 intro hS
 refine yL 0 (some 23) (.pointer (some ⟨mb, mo, none⟩)) rfl (fun w hSw => by obtain ⟨q1, q2⟩ := hSw; clear q2; go_simp) hS ?_
 refine yL 1 (some 24) (.pointer (some ⟨mb, mo, none⟩)) rfl (fun w hSw => by obtain ⟨q1, q2⟩ := hSw; clear q2; go_simp) hS ?_
 refine yL 2 (some 25) (.pointer (some ⟨mb, mo, none⟩)) rfl (fun w hSw => by obtain ⟨q1, q2⟩ := hSw; clear q2; go_simp) hS ?_
 refine yL 3 (some 26) (.slice (some ⟨eb, 0, none⟩) n n) rfl (fun w hSw => by obtain ⟨q1, q2⟩ := hSw; clear q2; go_simp) hS ?_
 refine yL 4 (some 27) (.int .i64 (p : Int)) rfl (fun w hSw => by obtain ⟨q1, q2⟩ := hSw; clear q2; go_simp) hS ?_
 refine yK 5 (some 28) (.agg (enC (some (d, c))).toArray) rfl (yieldsIf_load_mid (by rfl) 104 (.tmp 5) rfl g 0 rfl _ _ (fun w h => h.2) Tryz.underlying104 rfl (by rw [zAk, uA HEL])) hS ?_
 refine yL 6 (some 29) (.pointer (some ⟨eb, p * 33, none⟩)) rfl (fun w hSw => by obtain ⟨q1, q2⟩ := hSw; clear q2; go_simp) hS ?_
 refine wpAnyH_ready (rs := [7]) (by kernel_rfl) (by simp) ?_
 refine AllReadyH.cons rfl (fun K hK => ?_) AllReadyH.nil
 simp only [lD, lE, lF]
 rw [if_pos (by rfl)]
 refine wp_store_mid 104 (.tmp 29) (.tmp 28) rfl eb (p * 33) (enC (some (d, c))).toArray rfl rfl (by rw [List.size_toArray, uA HEL]; exact uA hth) (by rw [zAk, List.size_toArray, uA HEL]) (uA HE1) ?_
 rw [zBj, uA HX6]
 clear q1 R5
 refine hK.out _ _ ⟨c06, R6⟩ (fun hS => ?_)
 clear hK K
 refine wpAnyH_done (by kernel_rfl) ?_ _
 have HR6 := uB R6
 have HNE := uB (zAD (enD (some (d, c))) (zAg _ (uA HOK).2) (enT (some (d, c)) : Int) x6.drew)
 rw [show (((enT (some (d, c)) : Nat) : Int) == 0) = false by have := ((uA HOK).2 d c rfl).2.1; simp [enT]; omega] at HNE
 clear hS c06 R6 hth
 go_wp2_with (refine wpList_load_mid rfl 104 (.tmp 5) rfl g 0 (by rfl) _ _ (uA HR6) Tryz.underlying104 rfl (by rw [zAk]; exact congrArg some (uA HEL).symm) ?_)
 refine (uA HNE).mono ?_
 rintro e x7 ⟨rfl, hb7⟩
 obtain ⟨c06, c16, E6, P6, G6, O6⟩ := uA Y6
 have hb7' : Below x6.heap.size x6 x7 := ((Below.refl _ x6).drew).trans hb7
 have hml : mb < x6.heap.size := Nat.lt_of_lt_of_le (uA HM).lt O6.size
 have c07 : x7.cell? ⟨mb, mo, none⟩ = some (.slice (some ⟨eb, 0, none⟩) n n) := by rw [hb7'.cell (p := ⟨mb, mo, none⟩) hml]; exact c06
 have c17 : x7.cell? ⟨mb, mo + 1, none⟩ = some (.map (some bm)) := by rw [hb7'.cell (p := ⟨mb, mo + 1, none⟩) hml]; exact c16
 have E7 := E6.below hb7'
 have P7 := P6.below hb7'
 have G7 := G6.below hb7' G6.lt
 have O7 : Only (fun x => x = eb ∨ x = bm) w x7 := O6.trans (Only.of_below (P := fun x => x = eb ∨ x = bm) hb7') (fun _ _ q => q)
 have hml7 : mb < x7.heap.size := Nat.lt_of_lt_of_le hml hb7'.size
 clear hb7 hb7' c06 c16 E6 P6 G6 O6 Y6 HNE HR6 hml
 have hTN : TOk n (upd T p none) := (uA HT).upd p (uA HIX).1 none (fun _ _ h => by cases h) (fun _ _ h => by cases h)
 obtain ⟨x8, hput, P8, O8, hs8⟩ := P7.drewI.put hTN (uA HIX).2 (uA HIX).1 (by unfold upd; rw [if_pos rfl]) (uA HOK).2 (fun i c' q => by
  unfold upd at q
  split at q
  ·cases q
  ·rename_i hne
   exact hne (hf i c' q))
 rw [zKw] at P8
 have K7 := (zAn (zAg _ (uA HOK).2) G7).2.2.2
 have O8' : Only (fun x => x = bm) x7 x8 := (Only.of_below (P := fun x => x = bm) ((Below.refl _ x7).drew)).trans O8 (fun _ _ q => q)
 have c08 : x8.cell? ⟨mb, mo, none⟩ = some (.slice (some ⟨eb, 0, none⟩) n n) := by rw [World.cell?_of_block (a := ⟨mb, mo, none⟩) (O8'.2 mb hml7 (uA HM).nb)]; exact c07
 have c18 : x8.cell? ⟨mb, mo + 1, none⟩ = some (.map (some bm)) := by rw [World.cell?_of_block (a := ⟨mb, mo + 1, none⟩) (O8'.2 mb hml7 (uA HM).nb)]; exact c17
 have K8 : x8.rangeAt g 0 (kC d) := (zAn (zAg _ (uA HOK).2) (G7.only O8' (by have := (uA HLT).2.2; omega))).2.2.2
 have Y8 := uB (show zBI mb mo eb bm n (upd T p (some (d, c))) w x8 from ⟨⟨c08, c18, E7.only O8' (uA HM).nx, P8, (uA HM).ne, (uA HM).nb, (uA HM).nx, Nat.lt_of_lt_of_le hml7 O8'.size⟩, O7.trans O8' (fun _ _ q => .inr q)⟩)
 have HKL := uB (zBm d (zAg _ (uA HOK).2))
 have C18 := uB (And.intro c18 K8)
 clear c07 E7 P7 G7 O7 hml7 P8 O8 hs8 O8' c08 hTN c18 K8
 go_wp2
 refine wp_region_held_drew (S := fun w' => w'.cell? ⟨mb, mo + 1, none⟩ = some (.map (some bm)) /\ w'.rangeAt g 0 (kC d)) (by kernel_rfl) ⟨c17, K7⟩ ?_
 intro hS
 refine yL 0 (some 33) (.pointer (some ⟨mb, mo, none⟩)) rfl (fun w hSw => by obtain ⟨q1, q2⟩ := hSw; clear q2; go_simp) hS ?_
 refine yL 1 (some 34) (.pointer (some ⟨mb, mo, none⟩)) rfl (fun w hSw => by obtain ⟨q1, q2⟩ := hSw; clear q2; go_simp) hS ?_
 refine yL 2 (some 35) (.pointer (some ⟨mb, mo + 1, none⟩)) rfl (fun w hSw => by obtain ⟨q1, q2⟩ := hSw; clear q2; go_simp) hS ?_
 refine yL 3 (some 36) (.map (some bm)) rfl (fun w hSw => by obtain ⟨q1, q2⟩ := hSw; clear q2; go_simp) hS ?_
 refine yL 4 (some 37) (.pointer (some ⟨g, 0, none⟩)) rfl (fun w hSw => by obtain ⟨q1, q2⟩ := hSw; clear q2; go_simp) hS ?_
 refine yK 5 (some 38) (.agg (kC d).toArray) rfl (yieldsIf_load_mid (by rfl) 99 (.tmp 37) rfl g 0 rfl _ _ (fun w h => h.2) Tryz.underlying99 rfl (by rw [zBp, uA HKL])) hS ?_
 refine yL 6 (some 39) (.int .i64 (p : Int)) rfl (fun w hSw => by obtain ⟨q1, q2⟩ := hSw; clear q2; go_simp) hS ?_
 refine wpAnyH_ready (rs := [7]) (by kernel_rfl) (by simp) ?_
 refine AllReadyH.cons rfl (fun K hK => ?_) AllReadyH.nil
 simp only [lD, lE, lF]
 go_simp
 refine hK.out _ _ (uA C18) (fun hS => ?_)
 clear hK K
 refine wpAnyH_done (by kernel_rfl) ?_ _
 clear hS c17 K7 hput
 go_wp2
 go_end0
 exact ⟨rfl, uA Y8⟩
theorem zOx {w : World} {mb mo eb bm n : Nat} {T : Nat -> En} (h : MM w mb mo eb bm n T) (hT : TOk n T) (hn : n <= 1024) (p : Nat) (hp : p < n) (d0 : ByteArray) (c0 : Nat) (hw : T p = some (d0, c0)) (ee : En) (hE : ee = none) (he : EnOk ee) :
  Calls Tryz.prog 110 #[.pointer (some ⟨mb, mo, none⟩), .int .i64 (p : Int), .agg (enC (ee)).toArray] w fun e w' => e = .returned (.tuple #[]) /\ zBI mb mo eb bm n (upd T p (ee)) w w' := by
 have hok := hT.ok p
 rw [hw] at hok
 have HEL := uB (zA0 (ee) he)
 have HWL := uB (zA0 (some (d0, c0)) hok)
 have HE1 := uB (zBV (ee))
 have HW1 := uB (zBV (some (d0, c0)))
 obtain ⟨x1, hx1⟩ : ∃ q, w.alloc (.cells (enC (ee)).toArray 104) = q := ⟨_, rfl⟩
 obtain ⟨g, hg⟩ : ∃ g, w.heap.size = g := ⟨_, rfl⟩
 have hb1 : Below g w x1 := by rw [<- hx1, <- hg]; exact (Below.refl _ w).alloc (Nat.le_refl _) _
 have hs1 : x1.heap.size = g + 1 := by rw [<- hx1, <- hg]; simp
 have G1 : Blk x1 g (enC (ee)).toArray 104 := by rw [<- hx1, <- hg]; exact Blk.new w _ _
 have M1 : MM x1 mb mo eb bm n T := h.below (by rw [hg]; exact hb1)
 have hlt : mb < g /\ eb < g /\ bm < g := ⟨by rw [<- hg]; exact h.lt, by rw [<- hg]; exact h.er.lt, by rw [<- hg]; exact h.pm.lt⟩
 have cs0 := M1.c0
 have HR := uB (M1.er.range p hp)
 rw [hw] at HR
 obtain ⟨x2, hx2⟩ : ∃ q, x1.alloc (.cells #[.int .u8 0, .int .u8 0, .int .u8 0, .int .u8 0, .int .u8 0, .int .u8 0, .int .u8 0, .int .u8 0, .int .u8 0, .int .u8 0, .int .u8 0, .int .u8 0, .int .u8 0, .int .u8 0, .int .u8 0, .int .u8 0, .int .u8 0, .int .u8 0, .int .u8 0, .int .u8 0, .int .u8 0, .int .u8 0, .int .u8 0, .int .u8 0, .int .u8 0, .int .u8 0, .int .u8 0, .int .u8 0, .int .u8 0, .int .u8 0, .int .u8 0, .int .u8 0, .int .i64 0] 104) = q := ⟨_, rfl⟩
 have BZ : Blk x2 (g + 1) #[.int .u8 0, .int .u8 0, .int .u8 0, .int .u8 0, .int .u8 0, .int .u8 0, .int .u8 0, .int .u8 0, .int .u8 0, .int .u8 0, .int .u8 0, .int .u8 0, .int .u8 0, .int .u8 0, .int .u8 0, .int .u8 0, .int .u8 0, .int .u8 0, .int .u8 0, .int .u8 0, .int .u8 0, .int .u8 0, .int .u8 0, .int .u8 0, .int .u8 0, .int .u8 0, .int .u8 0, .int .u8 0, .int .u8 0, .int .u8 0, .int .u8 0, .int .u8 0, .int .i64 0] 104 := by rw [<- hx2, <- hs1]; exact Blk.new x1 _ _
 have HTZ := uB (zAN BZ 33 rfl)
 obtain ⟨x3, hx3⟩ : ∃ q, x2.setCells (g + 1) 0 (enC (some (d0, c0))) = q := ⟨_, rfl⟩
 have W3 : Blk x3 (g + 1) (enC (some (d0, c0))).toArray 104 := by
  rw [<- hx3]
  have := zAr (enC (some (d0, c0))) [] [] BZ (#[.int .u8 0, .int .u8 0, .int .u8 0, .int .u8 0, .int .u8 0, .int .u8 0, .int .u8 0, .int .u8 0, .int .u8 0, .int .u8 0, .int .u8 0, .int .u8 0, .int .u8 0, .int .u8 0, .int .u8 0, .int .u8 0, .int .u8 0, .int .u8 0, .int .u8 0, .int .u8 0, .int .u8 0, .int .u8 0, .int .u8 0, .int .u8 0, .int .u8 0, .int .u8 0, .int .u8 0, .int .u8 0, .int .u8 0, .int .u8 0, .int .u8 0, .int .u8 0, .int .i64 0] : Array Value).toList (by rw [uA HWL]; rfl) (by simp)
  simpa using this
 have G3 : Blk x3 g (enC (ee)).toArray 104 := by rw [<- hx3, <- hx2]; exact zAA _ _ (G1.alloc _) (g + 1) (by omega)
 have L3 : Below g w x3 := by rw [<- hx3, <- hx2]; exact zAc (by omega) _ _ (hb1.alloc (by omega) _)
 have HRW := uB (zAn (zAg _ hok) W3).2.1
 have HNO := uB (zAD (enD (some (d0, c0))) (zAg _ hok) (enT (some (d0, c0)) : Int) x3)
 rw [show (((enT (some (d0, c0)) : Nat) : Int) == 0) = false by have := (hok d0 c0 rfl).2.1; simp [enT]; omega] at HNO
 have X3 := uB (And.intro W3 (And.intro G3 L3))
 have HIX := uB (And.intro hp hn)
 have HT := uB hT
 have HM := uB h
 have HOK := uB (And.intro hok he)
 have HWW := uB hw
 have i0 : (0 : Int) <= (p : Int) := by omega
 have i1 : (p : Int) < (n : Int) := by omega
 have HLT := uB hlt
 have HEE := uB hE
 clear h hT hw hE hb1 G1 M1 BZ W3 G3 L3 hp hok he hlt
 have HS1 := uB hs1
 have HX3 := uB hx3
 have HX2 := uB hx2
 have HG := uB hg
 clear hs1 hx3 hx2
 go_enter Tryz.func110, Tryz.ntmps110
 go_wp2_with (first | refine wpList_load_mid rfl 104 (.tmp 12) rfl eb (p * 33) (by rfl) _ _ (uA HR) Tryz.underlying104 rfl (by rw [zAk]; exact congrArg some (uA HWL).symm) ?_ | refine wpList_store_mid rfl 104 (.tmp 6) (.tmp 13) rfl (g + 1) 0 (enC (some (d0, c0))).toArray (by rw [<- uA HS1]; rfl) rfl (by rw [List.size_toArray, uA HWL, uA HX2]; exact uA HTZ) (by rw [zAk, List.size_toArray, uA HWL]) (uA HW1) ?_ | refine wpList_load_mid rfl 104 (.tmp 6) rfl (g + 1) 0 (by rw [<- uA HS1]; rfl) _ _ (by rw [uA HX2, uA HX3]; exact uA HRW) Tryz.underlying104 rfl (by rw [zAk]; exact congrArg some (uA HWL).symm) ?_)
 rw [uA HX2, uA HX3, uA HS1]
 refine (uA HNO).mono ?_
 rintro e x4 ⟨rfl, hb4⟩
 have hg3 := (uA X3).2.1.lt
 have hg3' := (uA X3).1.lt
 have W4 : Blk x4 (g + 1) (enC (some (d0, c0))).toArray 104 := (uA X3).1.below hb4 hg3'
 have G4 : Blk x4 g (enC (ee)).toArray 104 := (uA X3).2.1.below hb4 hg3
 have L4 : Below g w x4 := (uA X3).2.2.trans (hb4.mono (by omega))
 have M4 : MM x4 mb mo eb bm n T := (uA HM).below (by rw [uA HG]; exact L4)
 have X4 := uB (And.intro W4 (And.intro G4 (And.intro L4 M4)))
 clear hb4 hg3 hg3' X3 HNO HRW HR cs0 HTZ HX2 HX3
 have K4 := (zAn (zAg _ (uA HOK).1) W4).2.2.2
 have c1 := M4.c1
 obtain ⟨x5, hdel, P5, O5, hs5⟩ := M4.pm.drewI.del (uA HT) (uA HWW) 0
 have X5 := uB (And.intro P5 (And.intro O5 hs5))
 have HKL := uB (zBm d0 (zAg _ (uA HOK).1))
 clear W4 G4 L4 P5 O5 hs5
 go_wp2
 refine wp_region_held_drew (S := fun w' => w'.cell? ⟨mb, mo + 1, none⟩ = some (.map (some bm)) /\ w'.rangeAt (g + 1) 0 (kC d0)) (by kernel_rfl) ⟨c1, K4⟩ ?_
 intro hS
 refine yL 0 (some 17) (.pointer (some ⟨mb, mo, none⟩)) rfl (fun w hSw => by obtain ⟨q1, q2⟩ := hSw; clear q2; go_simp) hS ?_
 refine yL 1 (some 18) (.pointer (some ⟨mb, mo, none⟩)) rfl (fun w hSw => by obtain ⟨q1, q2⟩ := hSw; clear q2; go_simp) hS ?_
 refine yL 2 (some 19) (.pointer (some ⟨mb, mo + 1, none⟩)) rfl (fun w hSw => by obtain ⟨q1, q2⟩ := hSw; clear q2; go_simp) hS ?_
 refine yL 3 (some 20) (.map (some bm)) rfl (fun w hSw => by obtain ⟨q1, q2⟩ := hSw; clear q2; go_simp) hS ?_
 refine yL 4 (some 21) (.pointer (some ⟨g + 1, 0, none⟩)) rfl (fun w hSw => by obtain ⟨q1, q2⟩ := hSw; clear q2; go_simp) hS ?_
 refine yK 5 (some 22) (.agg (kC d0).toArray) rfl (yieldsIf_load_mid (by rfl) 99 (.tmp 21) rfl (g + 1) 0 rfl _ _ (fun w h => h.2) Tryz.underlying99 rfl (by rw [zBp, uA HKL])) hS ?_
 refine wpAnyH_ready (rs := [6]) (by kernel_rfl) (by simp) ?_
 refine AllReadyH.cons rfl (fun K hK => ?_) AllReadyH.nil
 simp only [lD, lE, lF]
 go_simp
 obtain ⟨P5, O5, hs5⟩ := uA X5
 obtain ⟨W4, G4, L4, M4'⟩ := uA X4
 have hlt := uA HLT
 have O5' : Only (fun x => x = bm) x4 x5 := (Only.of_below (P := fun x => x = bm) ((Below.refl _ x4).drew)).trans O5 (fun _ _ q => q)
 have c1' : x5.cell? ⟨mb, mo + 1, none⟩ = some (.map (some bm)) := by rw [World.cell?_of_block (a := ⟨mb, mo + 1, none⟩) (O5'.2 mb M4.lt M4.nb)]; exact M4.c1
 have W5 : Blk x5 (g + 1) (enC (some (d0, c0))).toArray 104 := W4.only O5' (by omega)
 have K5 := (zAn (zAg _ (uA HOK).1) W5).2.2.2
 have Y5 := uB (show x5.cell? ⟨mb, mo, none⟩ = some (.slice (some ⟨eb, 0, none⟩) n n) /\ x5.cell? ⟨mb, mo + 1, none⟩ = some (.map (some bm)) /\ ER x5 eb n T /\ PM x5 bm n (upd T p none) /\ Blk x5 g (enC (ee)).toArray 104 /\ Only (fun x => x = eb ∨ x = bm) w x5 from
  ⟨by rw [World.cell?_of_block (a := ⟨mb, mo, none⟩) (O5'.2 mb M4.lt M4.nb)]; exact M4.c0, c1', M4.er.only O5' M4.nx, P5, G4.only O5' (by omega), (Only.of_below (P := fun x => x = eb ∨ x = bm) (by rw [uA HG]; exact L4)).trans O5' (fun _ _ q => .inr q)⟩)
 clear P5 O5 hs5 W4 G4 L4 M4' O5' W5 M4 hdel X5 X4 K4 c1 hlt
 refine hK.out _ _ ⟨c1', K5⟩ (fun hS => ?_)
 clear hK K
 refine wpAnyH_done (by kernel_rfl) ?_ _
 clear hS c1' K5
 obtain ⟨q1, q2, q3, q4, q5, q6⟩ := uA Y5
 have R5 := (zAn (zAg _ (uA HOK).2) q5).2.1
 have hth := uB (show World.there x5.drew eb (p * 33) 33 from q3.there p (uA HIX).1)
 obtain ⟨x6, hx6⟩ : ∃ q, x5.setCells eb (p * 33) (enC (ee)) = q := ⟨_, rfl⟩
 have hge : g ≠ eb := by have := (uA HLT).2.1; omega
 have O6 : Only (fun x => x = eb) x5 x6 := by rw [<- hx6]; exact zCF eb _ _ rfl
 have E6 : ER x6 eb n (upd T p (ee)) := by rw [<- hx6]; exact q3.set p (uA HIX).1 _ (uA HOK).2
 have G6 : Blk x6 g (enC (ee)).toArray 104 := q5.only O6 hge
 have c06 : x6.cell? ⟨mb, mo, none⟩ = some (.slice (some ⟨eb, 0, none⟩) n n) := by rw [World.cell?_of_block (a := ⟨mb, mo, none⟩) (O6.2 mb (Nat.lt_of_lt_of_le (uA HM).lt q6.size) (uA HM).ne)]; exact q1
 have c16 : x6.cell? ⟨mb, mo + 1, none⟩ = some (.map (some bm)) := by rw [World.cell?_of_block (a := ⟨mb, mo + 1, none⟩) (O6.2 mb (Nat.lt_of_lt_of_le (uA HM).lt q6.size) (uA HM).ne)]; exact q2
 have P6 : PM x6 bm n (upd T p none) := q4.only O6 (fun q => (uA HM).nx q.symm)
 have R6 := (zAn (zAg _ (uA HOK).2) G6).2.1
 have Y6 := uB (And.intro c06 (And.intro c16 (And.intro E6 (And.intro P6 (And.intro G6 (q6.trans O6 (fun _ _ q => .inl q)))))))
 have HX6 := uB hx6
 have HGE := uB hge
 clear q2 q3 q4 q5 q6 O6 E6 G6 P6 c16 hx6 hge Y5
 go_wp2
 refine wp_region_held_drew (S := fun w' => w'.cell? ⟨mb, mo, none⟩ = some (.slice (some ⟨eb, 0, none⟩) n n) /\ w'.rangeAt g 0 (enC (ee))) (by kernel_rfl) ⟨q1, R5⟩ ?_
 intro hS
 refine yL 0 (some 23) (.pointer (some ⟨mb, mo, none⟩)) rfl (fun w hSw => by obtain ⟨q1, q2⟩ := hSw; clear q2; go_simp) hS ?_
 refine yL 1 (some 24) (.pointer (some ⟨mb, mo, none⟩)) rfl (fun w hSw => by obtain ⟨q1, q2⟩ := hSw; clear q2; go_simp) hS ?_
 refine yL 2 (some 25) (.pointer (some ⟨mb, mo, none⟩)) rfl (fun w hSw => by obtain ⟨q1, q2⟩ := hSw; clear q2; go_simp) hS ?_
 refine yL 3 (some 26) (.slice (some ⟨eb, 0, none⟩) n n) rfl (fun w hSw => by obtain ⟨q1, q2⟩ := hSw; clear q2; go_simp) hS ?_
 refine yL 4 (some 27) (.int .i64 (p : Int)) rfl (fun w hSw => by obtain ⟨q1, q2⟩ := hSw; clear q2; go_simp) hS ?_
 refine yK 5 (some 28) (.agg (enC (ee)).toArray) rfl (yieldsIf_load_mid (by rfl) 104 (.tmp 5) rfl g 0 rfl _ _ (fun w h => h.2) Tryz.underlying104 rfl (by rw [zAk, uA HEL])) hS ?_
 refine yL 6 (some 29) (.pointer (some ⟨eb, p * 33, none⟩)) rfl (fun w hSw => by obtain ⟨q1, q2⟩ := hSw; clear q2; go_simp) hS ?_
 refine wpAnyH_ready (rs := [7]) (by kernel_rfl) (by simp) ?_
 refine AllReadyH.cons rfl (fun K hK => ?_) AllReadyH.nil
 simp only [lD, lE, lF]
 rw [if_pos (by rfl)]
 refine wp_store_mid 104 (.tmp 29) (.tmp 28) rfl eb (p * 33) (enC (ee)).toArray rfl rfl (by rw [List.size_toArray, uA HEL]; exact uA hth) (by rw [zAk, List.size_toArray, uA HEL]) (uA HE1) ?_
 rw [zBj, uA HX6]
 clear q1 R5
 refine hK.out _ _ ⟨c06, R6⟩ (fun hS => ?_)
 clear hK K
 refine wpAnyH_done (by kernel_rfl) ?_ _
 have HR6 := uB R6
 have HNE := uB (zAD (enD (ee)) (zAg _ (uA HOK).2) (enT (ee) : Int) x6.drew)
 rw [show (((enT (ee) : Nat) : Int) == 0) = true by rw [uA HEE]; rfl] at HNE
 clear hS c06 R6 hth
 go_wp2_with (refine wpList_load_mid rfl 104 (.tmp 5) rfl g 0 (by rfl) _ _ (uA HR6) Tryz.underlying104 rfl (by rw [zAk]; exact congrArg some (uA HEL).symm) ?_)
 refine (uA HNE).mono ?_
 rintro e x7 ⟨rfl, hb7⟩
 obtain ⟨c06, c16, E6, P6, G6, O6⟩ := uA Y6
 have hb7' : Below x6.heap.size x6 x7 := ((Below.refl _ x6).drew).trans hb7
 have hml : mb < x6.heap.size := Nat.lt_of_lt_of_le (uA HM).lt O6.size
 have c07 : x7.cell? ⟨mb, mo, none⟩ = some (.slice (some ⟨eb, 0, none⟩) n n) := by rw [hb7'.cell (p := ⟨mb, mo, none⟩) hml]; exact c06
 have c17 : x7.cell? ⟨mb, mo + 1, none⟩ = some (.map (some bm)) := by rw [hb7'.cell (p := ⟨mb, mo + 1, none⟩) hml]; exact c16
 have E7 := E6.below hb7'
 have P7 := P6.below hb7'
 have G7 := G6.below hb7' G6.lt
 have O7 : Only (fun x => x = eb ∨ x = bm) w x7 := O6.trans (Only.of_below (P := fun x => x = eb ∨ x = bm) hb7') (fun _ _ q => q)
 have hml7 : mb < x7.heap.size := Nat.lt_of_lt_of_le hml hb7'.size
 clear hb7 hb7' c06 c16 E6 P6 G6 O6 Y6 HNE HR6 hml
 have Y7 := uB (show zBI mb mo eb bm n (upd T p ee) w x7 from ⟨⟨c07, c17, E7, by rw [uA HEE]; exact P7, (uA HM).ne, (uA HM).nb, (uA HM).nx, hml7⟩, O7⟩)
 clear c07 c17 E7 P7 G7 O7 hml7
 go_wp2
 go_end0
 exact ⟨rfl, uA Y7⟩
theorem zOv {w : World} {mb mo eb bm n : Nat} {T : Nat -> En} (h : MM w mb mo eb bm n T) (hT : TOk n T) (hn : n <= 1024) (p : Nat) (hp : p < n) (d0 : ByteArray) (c0 : Nat) (hw : T p = some (d0, c0)) (d : ByteArray) (c : Nat) (he : EnOk (some (d, c))) (hf : ∀ j c', T j = some (d, c') -> j = p) :
  Calls Tryz.prog 110 #[.pointer (some ⟨mb, mo, none⟩), .int .i64 (p : Int), .agg (enC (some (d, c))).toArray] w fun e w' => e = .returned (.tuple #[]) /\ zBI mb mo eb bm n (upd T p (some (d, c))) w w' := by
 have hok := hT.ok p
 rw [hw] at hok
 have HEL := uB (zA0 (some (d, c)) he)
 have HWL := uB (zA0 (some (d0, c0)) hok)
 have HE1 := uB (zBV (some (d, c)))
 have HW1 := uB (zBV (some (d0, c0)))
 obtain ⟨x1, hx1⟩ : ∃ q, w.alloc (.cells (enC (some (d, c))).toArray 104) = q := ⟨_, rfl⟩
 obtain ⟨g, hg⟩ : ∃ g, w.heap.size = g := ⟨_, rfl⟩
 have hb1 : Below g w x1 := by rw [<- hx1, <- hg]; exact (Below.refl _ w).alloc (Nat.le_refl _) _
 have hs1 : x1.heap.size = g + 1 := by rw [<- hx1, <- hg]; simp
 have G1 : Blk x1 g (enC (some (d, c))).toArray 104 := by rw [<- hx1, <- hg]; exact Blk.new w _ _
 have M1 : MM x1 mb mo eb bm n T := h.below (by rw [hg]; exact hb1)
 have hlt : mb < g /\ eb < g /\ bm < g := ⟨by rw [<- hg]; exact h.lt, by rw [<- hg]; exact h.er.lt, by rw [<- hg]; exact h.pm.lt⟩
 have cs0 := M1.c0
 have HR := uB (M1.er.range p hp)
 rw [hw] at HR
 obtain ⟨x2, hx2⟩ : ∃ q, x1.alloc (.cells #[.int .u8 0, .int .u8 0, .int .u8 0, .int .u8 0, .int .u8 0, .int .u8 0, .int .u8 0, .int .u8 0, .int .u8 0, .int .u8 0, .int .u8 0, .int .u8 0, .int .u8 0, .int .u8 0, .int .u8 0, .int .u8 0, .int .u8 0, .int .u8 0, .int .u8 0, .int .u8 0, .int .u8 0, .int .u8 0, .int .u8 0, .int .u8 0, .int .u8 0, .int .u8 0, .int .u8 0, .int .u8 0, .int .u8 0, .int .u8 0, .int .u8 0, .int .u8 0, .int .i64 0] 104) = q := ⟨_, rfl⟩
 have BZ : Blk x2 (g + 1) #[.int .u8 0, .int .u8 0, .int .u8 0, .int .u8 0, .int .u8 0, .int .u8 0, .int .u8 0, .int .u8 0, .int .u8 0, .int .u8 0, .int .u8 0, .int .u8 0, .int .u8 0, .int .u8 0, .int .u8 0, .int .u8 0, .int .u8 0, .int .u8 0, .int .u8 0, .int .u8 0, .int .u8 0, .int .u8 0, .int .u8 0, .int .u8 0, .int .u8 0, .int .u8 0, .int .u8 0, .int .u8 0, .int .u8 0, .int .u8 0, .int .u8 0, .int .u8 0, .int .i64 0] 104 := by rw [<- hx2, <- hs1]; exact Blk.new x1 _ _
 have HTZ := uB (zAN BZ 33 rfl)
 obtain ⟨x3, hx3⟩ : ∃ q, x2.setCells (g + 1) 0 (enC (some (d0, c0))) = q := ⟨_, rfl⟩
 have W3 : Blk x3 (g + 1) (enC (some (d0, c0))).toArray 104 := by
  rw [<- hx3]
  have := zAr (enC (some (d0, c0))) [] [] BZ (#[.int .u8 0, .int .u8 0, .int .u8 0, .int .u8 0, .int .u8 0, .int .u8 0, .int .u8 0, .int .u8 0, .int .u8 0, .int .u8 0, .int .u8 0, .int .u8 0, .int .u8 0, .int .u8 0, .int .u8 0, .int .u8 0, .int .u8 0, .int .u8 0, .int .u8 0, .int .u8 0, .int .u8 0, .int .u8 0, .int .u8 0, .int .u8 0, .int .u8 0, .int .u8 0, .int .u8 0, .int .u8 0, .int .u8 0, .int .u8 0, .int .u8 0, .int .u8 0, .int .i64 0] : Array Value).toList (by rw [uA HWL]; rfl) (by simp)
  simpa using this
 have G3 : Blk x3 g (enC (some (d, c))).toArray 104 := by rw [<- hx3, <- hx2]; exact zAA _ _ (G1.alloc _) (g + 1) (by omega)
 have L3 : Below g w x3 := by rw [<- hx3, <- hx2]; exact zAc (by omega) _ _ (hb1.alloc (by omega) _)
 have HRW := uB (zAn (zAg _ hok) W3).2.1
 have HNO := uB (zAD (enD (some (d0, c0))) (zAg _ hok) (enT (some (d0, c0)) : Int) x3)
 rw [show (((enT (some (d0, c0)) : Nat) : Int) == 0) = false by have := (hok d0 c0 rfl).2.1; simp [enT]; omega] at HNO
 have X3 := uB (And.intro W3 (And.intro G3 L3))
 have HIX := uB (And.intro hp hn)
 have HT := uB hT
 have HM := uB h
 have HOK := uB (And.intro hok he)
 have HWW := uB hw
 have i0 : (0 : Int) <= (p : Int) := by omega
 have i1 : (p : Int) < (n : Int) := by omega
 have HLT := uB hlt
 clear h hT hw hb1 G1 M1 BZ W3 G3 L3 hp hok he hlt
 have HS1 := uB hs1
 have HX3 := uB hx3
 have HX2 := uB hx2
 have HG := uB hg
 clear hs1 hx3 hx2
 go_enter Tryz.func110, Tryz.ntmps110
 go_wp2_with (first | refine wpList_load_mid rfl 104 (.tmp 12) rfl eb (p * 33) (by rfl) _ _ (uA HR) Tryz.underlying104 rfl (by rw [zAk]; exact congrArg some (uA HWL).symm) ?_ | refine wpList_store_mid rfl 104 (.tmp 6) (.tmp 13) rfl (g + 1) 0 (enC (some (d0, c0))).toArray (by rw [<- uA HS1]; rfl) rfl (by rw [List.size_toArray, uA HWL, uA HX2]; exact uA HTZ) (by rw [zAk, List.size_toArray, uA HWL]) (uA HW1) ?_ | refine wpList_load_mid rfl 104 (.tmp 6) rfl (g + 1) 0 (by rw [<- uA HS1]; rfl) _ _ (by rw [uA HX2, uA HX3]; exact uA HRW) Tryz.underlying104 rfl (by rw [zAk]; exact congrArg some (uA HWL).symm) ?_)
 rw [uA HX2, uA HX3, uA HS1]
 refine (uA HNO).mono ?_
 rintro e x4 ⟨rfl, hb4⟩
 have hg3 := (uA X3).2.1.lt
 have hg3' := (uA X3).1.lt
 have W4 : Blk x4 (g + 1) (enC (some (d0, c0))).toArray 104 := (uA X3).1.below hb4 hg3'
 have G4 : Blk x4 g (enC (some (d, c))).toArray 104 := (uA X3).2.1.below hb4 hg3
 have L4 : Below g w x4 := (uA X3).2.2.trans (hb4.mono (by omega))
 have M4 : MM x4 mb mo eb bm n T := (uA HM).below (by rw [uA HG]; exact L4)
 have X4 := uB (And.intro W4 (And.intro G4 (And.intro L4 M4)))
 clear hb4 hg3 hg3' X3 HNO HRW HR cs0 HTZ HX2 HX3
 have K4 := (zAn (zAg _ (uA HOK).1) W4).2.2.2
 have c1 := M4.c1
 obtain ⟨x5, hdel, P5, O5, hs5⟩ := M4.pm.drewI.del (uA HT) (uA HWW) 0
 have X5 := uB (And.intro P5 (And.intro O5 hs5))
 have HKL := uB (zBm d0 (zAg _ (uA HOK).1))
 clear W4 G4 L4 P5 O5 hs5
 go_wp2
 refine wp_region_held_drew (S := fun w' => w'.cell? ⟨mb, mo + 1, none⟩ = some (.map (some bm)) /\ w'.rangeAt (g + 1) 0 (kC d0)) (by kernel_rfl) ⟨c1, K4⟩ ?_
 intro hS
 refine yL 0 (some 17) (.pointer (some ⟨mb, mo, none⟩)) rfl (fun w hSw => by obtain ⟨q1, q2⟩ := hSw; clear q2; go_simp) hS ?_
 refine yL 1 (some 18) (.pointer (some ⟨mb, mo, none⟩)) rfl (fun w hSw => by obtain ⟨q1, q2⟩ := hSw; clear q2; go_simp) hS ?_
 refine yL 2 (some 19) (.pointer (some ⟨mb, mo + 1, none⟩)) rfl (fun w hSw => by obtain ⟨q1, q2⟩ := hSw; clear q2; go_simp) hS ?_
 refine yL 3 (some 20) (.map (some bm)) rfl (fun w hSw => by obtain ⟨q1, q2⟩ := hSw; clear q2; go_simp) hS ?_
 refine yL 4 (some 21) (.pointer (some ⟨g + 1, 0, none⟩)) rfl (fun w hSw => by obtain ⟨q1, q2⟩ := hSw; clear q2; go_simp) hS ?_
 refine yK 5 (some 22) (.agg (kC d0).toArray) rfl (yieldsIf_load_mid (by rfl) 99 (.tmp 21) rfl (g + 1) 0 rfl _ _ (fun w h => h.2) Tryz.underlying99 rfl (by rw [zBp, uA HKL])) hS ?_
 refine wpAnyH_ready (rs := [6]) (by kernel_rfl) (by simp) ?_
 refine AllReadyH.cons rfl (fun K hK => ?_) AllReadyH.nil
 simp only [lD, lE, lF]
 go_simp
 obtain ⟨P5, O5, hs5⟩ := uA X5
 obtain ⟨W4, G4, L4, M4'⟩ := uA X4
 have hlt := uA HLT
 have O5' : Only (fun x => x = bm) x4 x5 := (Only.of_below (P := fun x => x = bm) ((Below.refl _ x4).drew)).trans O5 (fun _ _ q => q)
 have c1' : x5.cell? ⟨mb, mo + 1, none⟩ = some (.map (some bm)) := by rw [World.cell?_of_block (a := ⟨mb, mo + 1, none⟩) (O5'.2 mb M4.lt M4.nb)]; exact M4.c1
 have W5 : Blk x5 (g + 1) (enC (some (d0, c0))).toArray 104 := W4.only O5' (by omega)
 have K5 := (zAn (zAg _ (uA HOK).1) W5).2.2.2
 have Y5 := uB (show x5.cell? ⟨mb, mo, none⟩ = some (.slice (some ⟨eb, 0, none⟩) n n) /\ x5.cell? ⟨mb, mo + 1, none⟩ = some (.map (some bm)) /\ ER x5 eb n T /\ PM x5 bm n (upd T p none) /\ Blk x5 g (enC (some (d, c))).toArray 104 /\ Only (fun x => x = eb ∨ x = bm) w x5 from
  ⟨by rw [World.cell?_of_block (a := ⟨mb, mo, none⟩) (O5'.2 mb M4.lt M4.nb)]; exact M4.c0, c1', M4.er.only O5' M4.nx, P5, G4.only O5' (by omega), (Only.of_below (P := fun x => x = eb ∨ x = bm) (by rw [uA HG]; exact L4)).trans O5' (fun _ _ q => .inr q)⟩)
 clear P5 O5 hs5 W4 G4 L4 M4' O5' W5 M4 hdel X5 X4 K4 c1 hlt
 refine hK.out _ _ ⟨c1', K5⟩ (fun hS => ?_)
 clear hK K
 refine wpAnyH_done (by kernel_rfl) ?_ _
 clear hS c1' K5
 obtain ⟨q1, q2, q3, q4, q5, q6⟩ := uA Y5
 have R5 := (zAn (zAg _ (uA HOK).2) q5).2.1
 have hth := uB (show World.there x5.drew eb (p * 33) 33 from q3.there p (uA HIX).1)
 obtain ⟨x6, hx6⟩ : ∃ q, x5.setCells eb (p * 33) (enC (some (d, c))) = q := ⟨_, rfl⟩
 have hge : g ≠ eb := by have := (uA HLT).2.1; omega
 have O6 : Only (fun x => x = eb) x5 x6 := by rw [<- hx6]; exact zCF eb _ _ rfl
 have E6 : ER x6 eb n (upd T p (some (d, c))) := by rw [<- hx6]; exact q3.set p (uA HIX).1 _ (uA HOK).2
 have G6 : Blk x6 g (enC (some (d, c))).toArray 104 := q5.only O6 hge
 have c06 : x6.cell? ⟨mb, mo, none⟩ = some (.slice (some ⟨eb, 0, none⟩) n n) := by rw [World.cell?_of_block (a := ⟨mb, mo, none⟩) (O6.2 mb (Nat.lt_of_lt_of_le (uA HM).lt q6.size) (uA HM).ne)]; exact q1
 have c16 : x6.cell? ⟨mb, mo + 1, none⟩ = some (.map (some bm)) := by rw [World.cell?_of_block (a := ⟨mb, mo + 1, none⟩) (O6.2 mb (Nat.lt_of_lt_of_le (uA HM).lt q6.size) (uA HM).ne)]; exact q2
 have P6 : PM x6 bm n (upd T p none) := q4.only O6 (fun q => (uA HM).nx q.symm)
 have R6 := (zAn (zAg _ (uA HOK).2) G6).2.1
 have Y6 := uB (And.intro c06 (And.intro c16 (And.intro E6 (And.intro P6 (And.intro G6 (q6.trans O6 (fun _ _ q => .inl q)))))))
 have HX6 := uB hx6
 have HGE := uB hge
 clear q2 q3 q4 q5 q6 O6 E6 G6 P6 c16 hx6 hge Y5
 go_wp2
 refine wp_region_held_drew (S := fun w' => w'.cell? ⟨mb, mo, none⟩ = some (.slice (some ⟨eb, 0, none⟩) n n) /\ w'.rangeAt g 0 (enC (some (d, c)))) (by kernel_rfl) ⟨q1, R5⟩ ?_
 intro hS
 refine yL 0 (some 23) (.pointer (some ⟨mb, mo, none⟩)) rfl (fun w hSw => by obtain ⟨q1, q2⟩ := hSw; clear q2; go_simp) hS ?_
 refine yL 1 (some 24) (.pointer (some ⟨mb, mo, none⟩)) rfl (fun w hSw => by obtain ⟨q1, q2⟩ := hSw; clear q2; go_simp) hS ?_
 refine yL 2 (some 25) (.pointer (some ⟨mb, mo, none⟩)) rfl (fun w hSw => by obtain ⟨q1, q2⟩ := hSw; clear q2; go_simp) hS ?_
 refine yL 3 (some 26) (.slice (some ⟨eb, 0, none⟩) n n) rfl (fun w hSw => by obtain ⟨q1, q2⟩ := hSw; clear q2; go_simp) hS ?_
 refine yL 4 (some 27) (.int .i64 (p : Int)) rfl (fun w hSw => by obtain ⟨q1, q2⟩ := hSw; clear q2; go_simp) hS ?_
 refine yK 5 (some 28) (.agg (enC (some (d, c))).toArray) rfl (yieldsIf_load_mid (by rfl) 104 (.tmp 5) rfl g 0 rfl _ _ (fun w h => h.2) Tryz.underlying104 rfl (by rw [zAk, uA HEL])) hS ?_
 refine yL 6 (some 29) (.pointer (some ⟨eb, p * 33, none⟩)) rfl (fun w hSw => by obtain ⟨q1, q2⟩ := hSw; clear q2; go_simp) hS ?_
 refine wpAnyH_ready (rs := [7]) (by kernel_rfl) (by simp) ?_
 refine AllReadyH.cons rfl (fun K hK => ?_) AllReadyH.nil
 simp only [lD, lE, lF]
 rw [if_pos (by rfl)]
 refine wp_store_mid 104 (.tmp 29) (.tmp 28) rfl eb (p * 33) (enC (some (d, c))).toArray rfl rfl (by rw [List.size_toArray, uA HEL]; exact uA hth) (by rw [zAk, List.size_toArray, uA HEL]) (uA HE1) ?_
 rw [zBj, uA HX6]
 clear q1 R5
 refine hK.out _ _ ⟨c06, R6⟩ (fun hS => ?_)
 clear hK K
 refine wpAnyH_done (by kernel_rfl) ?_ _
 have HR6 := uB R6
 have HNE := uB (zAD (enD (some (d, c))) (zAg _ (uA HOK).2) (enT (some (d, c)) : Int) x6.drew)
 rw [show (((enT (some (d, c)) : Nat) : Int) == 0) = false by have := ((uA HOK).2 d c rfl).2.1; simp [enT]; omega] at HNE
 clear hS c06 R6 hth
 go_wp2_with (refine wpList_load_mid rfl 104 (.tmp 5) rfl g 0 (by rfl) _ _ (uA HR6) Tryz.underlying104 rfl (by rw [zAk]; exact congrArg some (uA HEL).symm) ?_)
 refine (uA HNE).mono ?_
 rintro e x7 ⟨rfl, hb7⟩
 obtain ⟨c06, c16, E6, P6, G6, O6⟩ := uA Y6
 have hb7' : Below x6.heap.size x6 x7 := ((Below.refl _ x6).drew).trans hb7
 have hml : mb < x6.heap.size := Nat.lt_of_lt_of_le (uA HM).lt O6.size
 have c07 : x7.cell? ⟨mb, mo, none⟩ = some (.slice (some ⟨eb, 0, none⟩) n n) := by rw [hb7'.cell (p := ⟨mb, mo, none⟩) hml]; exact c06
 have c17 : x7.cell? ⟨mb, mo + 1, none⟩ = some (.map (some bm)) := by rw [hb7'.cell (p := ⟨mb, mo + 1, none⟩) hml]; exact c16
 have E7 := E6.below hb7'
 have P7 := P6.below hb7'
 have G7 := G6.below hb7' G6.lt
 have O7 : Only (fun x => x = eb ∨ x = bm) w x7 := O6.trans (Only.of_below (P := fun x => x = eb ∨ x = bm) hb7') (fun _ _ q => q)
 have hml7 : mb < x7.heap.size := Nat.lt_of_lt_of_le hml hb7'.size
 clear hb7 hb7' c06 c16 E6 P6 G6 O6 Y6 HNE HR6 hml
 have hTN : TOk n (upd T p none) := (uA HT).upd p (uA HIX).1 none (fun _ _ h => by cases h) (fun _ _ h => by cases h)
 obtain ⟨x8, hput, P8, O8, hs8⟩ := P7.drewI.put hTN (uA HIX).2 (uA HIX).1 (by unfold upd; rw [if_pos rfl]) (uA HOK).2 (fun i c' q => by
  unfold upd at q
  split at q
  ·cases q
  ·rename_i hne
   exact hne (hf i c' q))
 rw [zKw] at P8
 have K7 := (zAn (zAg _ (uA HOK).2) G7).2.2.2
 have O8' : Only (fun x => x = bm) x7 x8 := (Only.of_below (P := fun x => x = bm) ((Below.refl _ x7).drew)).trans O8 (fun _ _ q => q)
 have c08 : x8.cell? ⟨mb, mo, none⟩ = some (.slice (some ⟨eb, 0, none⟩) n n) := by rw [World.cell?_of_block (a := ⟨mb, mo, none⟩) (O8'.2 mb hml7 (uA HM).nb)]; exact c07
 have c18 : x8.cell? ⟨mb, mo + 1, none⟩ = some (.map (some bm)) := by rw [World.cell?_of_block (a := ⟨mb, mo + 1, none⟩) (O8'.2 mb hml7 (uA HM).nb)]; exact c17
 have K8 : x8.rangeAt g 0 (kC d) := (zAn (zAg _ (uA HOK).2) (G7.only O8' (by have := (uA HLT).2.2; omega))).2.2.2
 have Y8 := uB (show zBI mb mo eb bm n (upd T p (some (d, c))) w x8 from ⟨⟨c08, c18, E7.only O8' (uA HM).nx, P8, (uA HM).ne, (uA HM).nb, (uA HM).nx, Nat.lt_of_lt_of_le hml7 O8'.size⟩, O7.trans O8' (fun _ _ q => .inr q)⟩)
 have HKL := uB (zBm d (zAg _ (uA HOK).2))
 have C18 := uB (And.intro c18 K8)
 clear c07 E7 P7 G7 O7 hml7 P8 O8 hs8 O8' c08 hTN c18 K8
 go_wp2
 refine wp_region_held_drew (S := fun w' => w'.cell? ⟨mb, mo + 1, none⟩ = some (.map (some bm)) /\ w'.rangeAt g 0 (kC d)) (by kernel_rfl) ⟨c17, K7⟩ ?_
 intro hS
 refine yL 0 (some 33) (.pointer (some ⟨mb, mo, none⟩)) rfl (fun w hSw => by obtain ⟨q1, q2⟩ := hSw; clear q2; go_simp) hS ?_
 refine yL 1 (some 34) (.pointer (some ⟨mb, mo, none⟩)) rfl (fun w hSw => by obtain ⟨q1, q2⟩ := hSw; clear q2; go_simp) hS ?_
 refine yL 2 (some 35) (.pointer (some ⟨mb, mo + 1, none⟩)) rfl (fun w hSw => by obtain ⟨q1, q2⟩ := hSw; clear q2; go_simp) hS ?_
 refine yL 3 (some 36) (.map (some bm)) rfl (fun w hSw => by obtain ⟨q1, q2⟩ := hSw; clear q2; go_simp) hS ?_
 refine yL 4 (some 37) (.pointer (some ⟨g, 0, none⟩)) rfl (fun w hSw => by obtain ⟨q1, q2⟩ := hSw; clear q2; go_simp) hS ?_
 refine yK 5 (some 38) (.agg (kC d).toArray) rfl (yieldsIf_load_mid (by rfl) 99 (.tmp 37) rfl g 0 rfl _ _ (fun w h => h.2) Tryz.underlying99 rfl (by rw [zBp, uA HKL])) hS ?_
 refine yL 6 (some 39) (.int .i64 (p : Int)) rfl (fun w hSw => by obtain ⟨q1, q2⟩ := hSw; clear q2; go_simp) hS ?_
 refine wpAnyH_ready (rs := [7]) (by kernel_rfl) (by simp) ?_
 refine AllReadyH.cons rfl (fun K hK => ?_) AllReadyH.nil
 simp only [lD, lE, lF]
 go_simp
 refine hK.out _ _ (uA C18) (fun hS => ?_)
 clear hK K
 refine wpAnyH_done (by kernel_rfl) ?_ _
 clear hS c17 K7 hput
 go_wp2
 go_end0
 exact ⟨rfl, uA Y8⟩
theorem zIn {w : World} {mb mo eb bm n : Nat} {T : Nat -> En} (h : MM w mb mo eb bm n T) (hT : TOk n T) (hn : n <= 1024) (p : Nat) (hp : p < n) (e : En) (he : EnOk e) (hf : ∀ d c, e = some (d, c) -> ∀ j c', T j = some (d, c') -> j = p) :
  Calls Tryz.prog 110 #[.pointer (some ⟨mb, mo, none⟩), .int .i64 (p : Int), .agg (enC e).toArray] w fun ev w' => ev = .returned (.tuple #[]) /\ zBI mb mo eb bm n (upd T p e) w w' := by
 cases hw : T p with
 | none =>
  cases e with
  | none => exact zOe h hT hn p hp none rfl hw none rfl he
  | some q => exact zOq h hT hn p hp none rfl hw q.1 q.2 he (fun j c' hj => hf q.1 q.2 rfl j c' hj)
 | some q0 =>
  cases e with
  | none => exact zOx h hT hn p hp q0.1 q0.2 hw none rfl he
  | some q => exact zOv h hT hn p hp q0.1 q0.2 hw q.1 q.2 he (fun j c' hj => hf q.1 q.2 rfl j c' hj)
end
end Go.Proofs.YtdpnbemagiekoaaGreatDoor
