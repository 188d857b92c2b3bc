import Derived.Test.YtaepdekpdiofnaaGreatDoorMi26
import Derived.Test.YtaepdekpdiofnaaGreatDoorMi14
import Derived.Deep.RegionHeld3
import Derived.BigQuiet
namespace Go.Proofs.YtaepdekpdiofnaaGreatDoor
open Go.RowKit
/-- A raw write, laid on a free sector. -/
def lwP (x : Wr1) : Wr1 := (((19 + pickP x.1 109 : Nat) : Int), shapB x.2)
/-- A list of writes that may be committed. -/
def lstF : List Wr1 → List Wr1 → List Wr1
  | acc, [] => acc
  | acc, x :: r => if acc.length < 16 then (if (lwP x).1 ∈ secs acc then lstF acc r else lstF (acc ++ [lwP x]) r) else acc
theorem lstF_full (acc raw : List Wr1) (h : ¬ acc.length < 16) : lstF acc raw = acc := by
  cases raw with
  | nil => rfl
  | cons x r => rw [lstF, if_neg h]
theorem lstF_drop (acc raw : List Wr1) (k : Nat) (hk : k < raw.length) (h : acc.length < 16) : lstF acc (raw.drop k) = if (lwP (raw.getD k wr0)).1 ∈ secs acc then lstF acc (raw.drop (k + 1)) else lstF (acc ++ [lwP (raw.getD k wr0)]) (raw.drop (k + 1)) := by
  rw [List.drop_eq_getElem_cons hk, lstF, if_pos h, getD_of hk]
/-- What a list that may be committed is. -/
structure GoodL (l : List Wr1) : Prop where
  len : l.length ≤ 16
  free : ∀ x ∈ l, 19 ≤ x.1 ∧ x.1 < 128
  nodup : (secs l).Nodup
  size : ∀ x ∈ l, x.2.size = 256
theorem lstF_good (raw : List Wr1) : ∀ acc, GoodL acc → GoodL (lstF acc raw) := by
  induction raw with
  | nil => intro acc h; exact h
  | cons x r ih =>
    intro acc h
    unfold lstF
    split
    · rename_i hl
      split
      · exact ih acc h
      · rename_i hn
        refine ih _ ⟨by simp; omega, fun y hy => ?_, ?_, fun y hy => ?_⟩
        · rcases List.mem_append.1 hy with hy | hy
          · exact h.free y hy
          · simp at hy
            subst hy
            have := pickP_lt x.1 109 (by decide)
            show 19 ≤ ((19 + pickP x.1 109 : Nat) : Int) ∧ ((19 + pickP x.1 109 : Nat) : Int) < 128
            omega
        · unfold secs at hn ⊢
          rw [List.map_append, List.nodup_append]
          refine ⟨h.nodup, by simp, fun a ha b hb e => ?_⟩
          simp at hb
          subst hb
          exact hn (e ▸ ha)
        · rcases List.mem_append.1 hy with hy | hy
          · exact h.size y hy
          · simp at hy
            subst hy
            exact shapB_size x.2
    · exact h
theorem GoodL.nil : GoodL [] := ⟨by simp, fun x hx => (by cases hx), List.nodup_nil, fun x hx => (by cases hx)⟩
theorem GoodL.ref {l : List Wr1} (h : GoodL l) : refE l 128 = 0 := by
  have h1 : l.any (freeP 128) = false := List.any_eq_false.2 (fun x hx => by
    have := h.free x hx
    simp [freeP]
    omega)
  have h2 : l.any longP = false := List.any_eq_false.2 (fun x hx => by
    have := h.size x hx
    simp [longP, this])
  rw [refE, if_neg (by have := h.len; omega), h1, if_neg (by decide), if_neg (fun q => q h.nodup), h2, if_neg (by decide)]
/-- Raw writes that lie in memory, and how great they may be. -/
def Wok (l : List Wr1) : Prop := ∀ x ∈ l, I64 x.1 ∧ x.2.size ≤ 140737488355328
def LsI (w : World) (raw : List Wr1) (i : Nat) (v : Value) (wr : World) : Prop :=
  ∃ A, lstF [] raw = lstF A (raw.drop i) ∧ wr.ownsRow w.heap.size 53 2 v A.length (wrv A) ∧ A.length ≤ 16 ∧ Below w.heap.size w wr
theorem secs_mem (A : List Wr1) (z : Int) : z ∈ secs A ↔ ∃ j, j < A.length ∧ (A.getD j wr0).1 = z := by
  constructor
  · intro h
    obtain ⟨x, hx, e⟩ := List.mem_map.1 h
    obtain ⟨j, hj, e2⟩ := List.getElem_of_mem hx
    exact ⟨j, hj, by rw [getD_of hj, e2]; exact e⟩
  · rintro ⟨j, hj, e⟩
    rw [← e, getD_of hj]
    exact List.mem_map.2 ⟨_, List.getElem_mem hj, rfl⟩
def IsI (A : List Wr1) (y1 : Int) (m : Nat) (f : Bool) : Prop := f = true ↔ ∃ j, j < m ∧ (A.getD j wr0).1 = y1
theorem drewN_drewN (w : World) (a b : Nat) : (w.drewN a).drewN b = w.drewN (a + b) := by simp [World.drewN, Nat.add_assoc]
def LsPost (w : World) (raw : List Wr1) (e : Ending) (w' : World) : Prop := ∃ q c', e = .returned (.slice q (lstF [] raw).length c') ∧ Wls w' q (lstF [] raw) ∧ Below w.heap.size w w' ∧ ∀ g o, q = some ⟨g, o, none⟩ → w.heap.size ≤ g
set_option maxRecDepth 100000 in
set_option maxHeartbeats 2000000 in
theorem listed_any (w : World) (p : Option Addr) (c : Nat) (raw : List Wr1) (n : Nat) (hn : n = raw.length) (hl : Wls w p raw) (hk : Wok raw) (hz : n ≤ 9223372036854775807) :
    Calls Tryz.prog 13 #[.slice p n c] w (LsPost w raw) := by
  have X0 := hide (show LsI w raw 0 (.slice none 0 0) w from ⟨[], rfl, World.ownsRow_nil _ _ _ _, by simp, Below.refl _ _⟩)
  have HL := hide hl
  have HN := hide hn
  have HK := hide hk
  obtain ⟨i0, hi0, hz0, hz1, hz2⟩ := info_parts infoWj
  have HI := hide (And.intro hi0 (And.intro hz0 (And.intro hz1 hz2)))
  clear hl hn hk hi0 hz0 hz1 hz2
  have hfin : ∀ (A : List Wr1) (pv : Option Addr) (na cv : Nat) (x : World), lstF [] raw = A → x.ownsRow w.heap.size 53 2 (.slice pv na cv) A.length (wrv A) → na = A.length → Below w.heap.size w x → LsPost w raw (.returned (.slice pv na cv)) x := fun A pv na cv x e h1 h2 h3 => by
    unfold LsPost
    rw [e]
    refine ⟨pv, cv, by rw [h2], fun j hj => ?_, h3, fun g o eq => by subst eq; exact (h1.lt g rfl).1⟩
    obtain ⟨g, cap, ev, _⟩ := h1.form (by omega)
    simp at ev
    obtain ⟨rfl, _⟩ := ev
    obtain ⟨a1, a2⟩ := wrv_at A j hj
    exact ⟨g, 0, rfl, (h1.lt g rfl).2, by rw [Nat.zero_add, (own_at2 h1 rfl (j * 2) (by omega)).1]; exact a1, by rw [Nat.zero_add, (own_at2 h1 rfl (j * 2 + 1) (by omega)).1]; exact a2⟩
  have HFIN := hide hfin
  clear hfin
  go_enter Tryz.func13, Tryz.ntmps13
  go_wp2
  go_loopw [3, 4] (fun u i wr => ∃ k : Nat, k ≤ n ∧ i = .int .i64 (k : Int) ∧ LsI w raw k u wr) (fun _ i _ => n - (intOf i).toNat)
  case atStart => exact ⟨0, by omega, rfl, unhide X0⟩
  case round =>
    obtain ⟨k, hk, rfl, A, hA, hO, hA16, hB⟩ := hrel
    obtain ⟨wo, rfl⟩ : ∃ wo, wo = wr := ⟨_, rfl⟩
    clear X0
    obtain ⟨pv, cv, rfl, hcv⟩ := row_form hO
    obtain ⟨na, hna⟩ : ∃ na, na = A.length := ⟨_, rfl⟩
    rw [← hna] at hO hA16 hcv ⊢
    have HA := hide hA
    have HO := hide hO
    have HB := hide hB
    have HNA := hide hna
    clear hA hO hB hna
    by_cases hkn : k < n
    · have hkn' : (k : Int) < (n : Int) := by omega
      by_cases h16 : na < 16
      · have h16' : (na : Int) < 16 := by omega
        have hkl : k < raw.length := by rw [← unhide HN]; exact hkn
        obtain ⟨g, o, rfl, hg, c0, c1⟩ := (unhide HL).below (unhide HB) k hkl
        have hst := lstF_drop A raw k hkl (by rw [← unhide HNA]; exact h16)
        have hwk := unhide HK (raw.getD k wr0) (by rw [getD_of hkl]; exact List.getElem_mem hkl)
        obtain ⟨z, t, hzt⟩ : ∃ z t, raw.getD k wr0 = (z, t) := ⟨_, _, rfl⟩
        rw [hzt] at c0 c1 hst hwk
        have c0' : wo.cell? ⟨g, o + k * 2, none⟩ = some (.int .i64 z) := c0
        have c1' : wo.cell? ⟨g, o + k * 2 + 1, none⟩ = some (.string t) := c1
        have HPK := hide (fun (W : World) => pick5_c z 109 (by decide) hwk.1 109 rfl W)
        have HSH := hide (fun (W : World) => shaped5_any t hwk.2 W)
        have hpl := pickP_lt z 109 (by decide)
        have HST := hide (show lstF A (raw.drop k) = if ((19 + pickP z 109 : Nat) : Int) ∈ secs A then lstF A (raw.drop (k + 1)) else lstF (A ++ [(((19 + pickP z 109 : Nat) : Int), shapB t)]) (raw.drop (k + 1)) from hst)
        generalize pickP z 109 = pz at *
        obtain ⟨y1, hy1⟩ : ∃ y, ((19 + pz : Nat) : Int) = y := ⟨_, rfl⟩
        have hy1' : (19 : Int) + (pz : Int) = y1 := by omega
        have hyw : IntKind.i64.wrap y1 = y1 := wrapI_eq _ (by omega) (by omega)
        rw [hy1] at HST
        generalize shapB t = y2 at *
        have ik0 : 0 ≤ (k : Int) := by omega
        have HSO := hide (show ∀ y, Below wo.heap.size wo y → y.cell? ⟨g, o + k * 2, none⟩ = some (.int .i64 z) ∧ y.cell? ⟨g, o + k * 2 + 1, none⟩ = some (.string t) from fun y hy => ⟨(hy.cell (p := ⟨g, o + k * 2, none⟩) hg).trans c0', (hy.cell (p := ⟨g, o + k * 2 + 1, none⟩) hg).trans c1'⟩)
        have hSy0 := unhide HSO wo.drew ((Below.refl _ wo).drew)
        have HBz0 := hide ((Below.refl wo.heap.size wo).drew)
        clear c0 c1 c0' c1' hst hwk hzt hy1 hkl
        go_wp2_with fail
        refine wp_region_held_drew (S := fun w' => w'.cell? ⟨g, o + k * 2, none⟩ = some (.int .i64 z) ∧ w'.cell? ⟨g, o + k * 2 + 1, none⟩ = some (.string t)) (by kernel_rfl) hSy0 ?_
        intro hS
        refine wpAnyH_takeD 0 (some 19) (.slice (some ⟨g, o, none⟩) n c) rfl rfl (by kernel_rfl) (by kernel_rfl) (by kernel_rfl) (fun _ _ _ h => h) (Or.inl ⟨by rfl, fun w hSw => by obtain ⟨q1, q2⟩ := hSw; go_simp⟩) hS ?_
        simp only [Act.put, List.setIfInBounds_toArray, List.set_cons_zero, List.set_cons_succ]
        refine wpAnyH_takeD 1 (some 20) (.int .i64 (k : Int)) rfl rfl (by kernel_rfl) (by kernel_rfl) (by kernel_rfl) (fun _ _ _ h => h) (Or.inl ⟨by rfl, fun w hSw => by obtain ⟨q1, q2⟩ := hSw; go_simp⟩) hS ?_
        simp only [Act.put, List.setIfInBounds_toArray, List.set_cons_zero, List.set_cons_succ]
        refine wpAnyH_takeD 2 (some 21) (.pointer (some ⟨g, o + k * 2, none⟩)) rfl rfl (by kernel_rfl) (by kernel_rfl) (by kernel_rfl) (fun _ _ _ h => h) (Or.inl ⟨by rfl, fun w hSw => by obtain ⟨q1, q2⟩ := hSw; go_simp⟩) hS ?_
        simp only [Act.put, List.setIfInBounds_toArray, List.set_cons_zero, List.set_cons_succ]
        refine wpAnyH_takeD 3 (some 22) (.pointer (some ⟨g, o + k * 2, none⟩)) rfl rfl (by kernel_rfl) (by kernel_rfl) (by kernel_rfl) (fun _ _ _ h => h) (Or.inl ⟨by rfl, fun w hSw => by obtain ⟨q1, q2⟩ := hSw; go_simp⟩) hS ?_
        simp only [Act.put, List.setIfInBounds_toArray, List.set_cons_zero, List.set_cons_succ]
        refine wpAnyH_takeD 4 (some 23) (.int .i64 z) rfl rfl (by kernel_rfl) (by kernel_rfl) (by kernel_rfl) (fun _ _ _ h => h) (Or.inl ⟨by rfl, fun w hSw => by obtain ⟨q1, q2⟩ := hSw; go_simp⟩) hS ?_
        simp only [Act.put, List.setIfInBounds_toArray, List.set_cons_zero, List.set_cons_succ]
        refine wpAnyH_takeD 7 (some 26) (.slice (some ⟨g, o, none⟩) n c) rfl rfl (by kernel_rfl) (by kernel_rfl) (by kernel_rfl) (fun _ _ _ h => h) (Or.inl ⟨by rfl, fun w hSw => by obtain ⟨q1, q2⟩ := hSw; go_simp⟩) hS ?_
        simp only [Act.put, List.setIfInBounds_toArray, List.set_cons_zero, List.set_cons_succ]
        refine wpAnyH_takeD 8 (some 27) (.int .i64 (k : Int)) rfl rfl (by kernel_rfl) (by kernel_rfl) (by kernel_rfl) (fun _ _ _ h => h) (Or.inl ⟨by rfl, fun w hSw => by obtain ⟨q1, q2⟩ := hSw; go_simp⟩) hS ?_
        simp only [Act.put, List.setIfInBounds_toArray, List.set_cons_zero, List.set_cons_succ]
        refine wpAnyH_takeD 9 (some 28) (.pointer (some ⟨g, o + k * 2, none⟩)) rfl rfl (by kernel_rfl) (by kernel_rfl) (by kernel_rfl) (fun _ _ _ h => h) (Or.inl ⟨by rfl, fun w hSw => by obtain ⟨q1, q2⟩ := hSw; go_simp⟩) hS ?_
        simp only [Act.put, List.setIfInBounds_toArray, List.set_cons_zero, List.set_cons_succ]
        refine wpAnyH_takeD 10 (some 29) (.pointer (some ⟨g, o + k * 2 + 1, none⟩)) rfl rfl (by kernel_rfl) (by kernel_rfl) (by kernel_rfl) (fun _ _ _ h => h) (Or.inl ⟨by rfl, fun w hSw => by obtain ⟨q1, q2⟩ := hSw; go_simp⟩) hS ?_
        simp only [Act.put, List.setIfInBounds_toArray, List.set_cons_zero, List.set_cons_succ]
        refine wpAnyH_takeD 11 (some 30) (.string t) rfl rfl (by kernel_rfl) (by kernel_rfl) (by kernel_rfl) (fun _ _ _ h => h) (Or.inl ⟨by rfl, fun w hSw => by obtain ⟨q1, q2⟩ := hSw; go_simp⟩) hS ?_
        simp only [Act.put, List.setIfInBounds_toArray, List.set_cons_zero, List.set_cons_succ]
        refine wpAnyH_ready (rs := [5, 14]) (by kernel_rfl) (by simp) ?_
        refine AllReadyH.cons rfl (fun K hK => ?_) (AllReadyH.cons rfl (fun K hK => ?_) AllReadyH.nil)
        · simp only [List.getElem_toArray, List.getElem_cons_succ, List.getElem_cons_zero]
          go_simp
          refine (unhide HPK _).mono ?_
          rintro ev z1 ⟨rfl, rfl⟩
          refine hK.out _ _ (unhide HSO _ (unhide HBz0)) (fun hS => ?_)
          clear hK K
          refine wpAnyH_takeD 6 (some 25) (.int .i64 y1) rfl rfl (by kernel_rfl) (by kernel_rfl) (by kernel_rfl) (fun _ _ _ h => h) (Or.inl ⟨by rfl, fun w hSw => by obtain ⟨q1, q2⟩ := hSw; go_simp⟩) hS ?_
          simp only [Act.put, List.setIfInBounds_toArray, List.set_cons_zero, List.set_cons_succ]
          refine wpAnyH_ready (rs := [12, 14]) (by kernel_rfl) (by simp) ?_
          refine AllReadyH.cons rfl (fun K hK => ?_) (AllReadyH.cons rfl (fun K hK => ?_) AllReadyH.nil)
          · simp only [List.getElem_toArray, List.getElem_cons_succ, List.getElem_cons_zero]
            go_simp
            refine (unhide HSH _).mono ?_
            rintro ev z2 ⟨rfl, hbz⟩
            have HBz2 := hide ((unhide HBz0).trans (hbz.mono (unhide HBz0).size))
            clear hbz
            refine hK.out _ _ (unhide HSO _ (unhide HBz2)) (fun hS => ?_)
            clear hK K
            refine wpAnyH_takeD 13 (some 32) (.agg #[.int .i64 y1, .string y2]) rfl rfl (by kernel_rfl) (by kernel_rfl) (by kernel_rfl) (fun _ _ _ h => h) (Or.inl ⟨by rfl, fun w hSw => by obtain ⟨q1, q2⟩ := hSw; go_simp⟩) hS ?_
            simp only [Act.put, List.setIfInBounds_toArray, List.set_cons_zero, List.set_cons_succ]
            refine wpAnyH_ready (rs := [14]) (by kernel_rfl) (by simp) ?_
            refine AllReadyH.cons rfl (fun K hK => ?_) AllReadyH.nil
            simp only [List.getElem_toArray, List.getElem_cons_succ, List.getElem_cons_zero]
            go_simp
            obtain ⟨z3, hz⟩ : ∃ x, x = (z2.alloc (Obj.cells #[.int .i64 0, .string ⟨#[]⟩] 53)) := ⟨_, rfl⟩
            have BZ : Blk z3 z2.heap.size #[.int .i64 0, .string ⟨#[]⟩] 53 := by rw [hz]; exact Blk.new z2 _ _
            have hbz : Below z2.heap.size z2 z3 := by rw [hz]; exact ((Below.refl _ z2).alloc (Nat.le_refl _) _)
            have HBz3 := hide ((unhide HBz2).trans (hbz.mono (unhide HBz2).size))
            rw [← hz]
            replace hz := hide hz
            obtain ⟨wb, hwb⟩ : ∃ q, z2.heap.size = q := ⟨_, rfl⟩
            have HWB := hide (show wo.heap.size ≤ wb from by rw [← hwb]; exact (unhide HBz2).size)
            rw [hwb] at BZ ⊢
            have HBZ := hide BZ
            clear BZ hbz hwb
            refine hK.out _ _ (unhide HSO _ (unhide HBz3)) (fun hS => ?_)
            clear hK K
            refine wpAnyH_ready (rs := [15]) (by kernel_rfl) (by simp) ?_
            refine AllReadyH.cons rfl (fun K hK => ?_) AllReadyH.nil
            have f0 := (unhide HBZ).frozen 0
            have f1 := (unhide HBZ).frozen 1
            have e0 : z3.cell? ⟨wb, 0, none⟩ = some (.int .i64 0) := (unhide HBZ).cell 0
            have e1 : z3.cell? ⟨wb, 1, none⟩ = some (.string ⟨#[]⟩) := (unhide HBZ).cell 1
            simp only [List.getElem_toArray, List.getElem_cons_succ, List.getElem_cons_zero]
            go_simp
            obtain ⟨xs, hxs⟩ : ∃ x, x = (z3.setCell ⟨wb, 0, none⟩ (.int .i64 y1)).setCell ⟨wb, 1, none⟩ (.string y2) := ⟨_, rfl⟩
            have BB : Blk xs wb #[.int .i64 y1, .string y2] 53 := by rw [hxs]; exact ((unhide HBZ).set 0 _).set 1 _
            have hbx : Below wo.heap.size wo xs := by rw [hxs]; exact ((unhide HBz3).setCell (unhide HWB) _).setCell (unhide HWB) _
            have HBB := hide BB
            have HBX := hide hbx
            rw [← hxs]
            replace hxs := hide hxs
            refine hK.out _ _ (unhide HSO _ hbx) (fun hS => ?_)
            clear hK K BB hbx f0 f1 e0 e1
            refine wpAnyH_done (by kernel_rfl) ?_ _
            clear hS
            have hb0 : xs.cell? ⟨wb, 0, none⟩ = some (.int .i64 y1) := (unhide HBB).cell 0
            have hb1 : xs.cell? ⟨wb, 1, none⟩ = some (.string y2) := (unhide HBB).cell 1
            have HOX := hide (show xs.ownsRow w.heap.size 53 2 (.slice pv na cv) na (wrv A) from owns_only (unhide HO) (Only.of_below (P := fun _ => False) (unhide HBX)) (fun _ _ q => q))
            have HBW := hide ((unhide HB).trans ((unhide HBX).mono (unhide HB).size))
            clear HPK HSH HSO hSy0 HBz0
            go_wp2
            go_loopw [6, 7] (fun u i wr => ∃ m d : Nat, m ≤ na ∧ i = .int .i64 (m : Int) ∧ wr = xs.drewN d ∧ (∃ f : Bool, u = .bool f ∧ IsI A y1 m f)) (fun _ i _ => na - (intOf i).toNat)
            case atStart => exact ⟨0, 0, by omega, rfl, rfl, false, rfl, ⟨fun q => (by cases q), fun ⟨j, hj, _⟩ => absurd hj (by omega)⟩⟩
            case round =>
              obtain ⟨m, d, hm, rfl, rfl, f, rfl, hF⟩ := hrel
              have HF := hide hF
              clear hF
              have hb0d : (xs.drewN d).cell? ⟨wb, 0, none⟩ = some (.int .i64 y1) := hb0
              have hb1d : (xs.drewN d).cell? ⟨wb, 1, none⟩ = some (.string y2) := hb1
              have HOD := hide (show (xs.drewN d).ownsRow w.heap.size 53 2 (.slice pv na cv) na (wrv A) from unhide HOX)
              have HBD := hide (show Below w.heap.size w (xs.drewN d) from below_drewN (unhide HBW) d)
              obtain ⟨xd, hxd⟩ : ∃ q, xs.drewN d = q := ⟨_, rfl⟩
              rw [hxd] at hb0d hb1d HOD HBD ⊢
              have HXD := hide hxd
              clear hxd
              by_cases hmn : m < na
              · have hmn' : (m : Int) < (na : Int) := by omega
                obtain ⟨gv, cap', ev, _⟩ := (unhide HOD).form (by omega)
                have hpv : pv = some ⟨gv, 0, none⟩ := by simp at ev; exact ev.1
                subst hpv
                have hml : m < A.length := by rw [← unhide HNA]; exact hmn
                obtain ⟨a1, _⟩ := wrv_at A m hml
                have cm : xd.cell? ⟨gv, m * 2, none⟩ = some (.int .i64 (A.getD m wr0).1) := by rw [(own_at2 (unhide HOD) rfl (m * 2) (by omega)).1]; exact a1
                have m0 : 0 ≤ (m : Int) := by omega
                obtain ⟨am, ham⟩ : ∃ q, (A.getD m wr0).1 = q := ⟨_, rfl⟩
                rw [ham] at cm
                have HAM := hide ham
                clear ev a1 ham hml
                cases f with
                | true =>
                  have HF2 := hide (show IsI A y1 (m + 1) true from ⟨fun _ => by obtain ⟨j, hj, e⟩ := (unhide HF).1 rfl; exact ⟨j, by omega, e⟩, fun _ => rfl⟩)
                  go_wp2
                  go_quiet (fail)
                  go_wp2
                  go_roundw
                  case rel => exact ⟨m + 1, d + _, by omega, by go_num, by rw [← unhide HXD]; exact drewN_drewN _ _ _, true, rfl, unhide HF2⟩
                  case measure => simp [intOf]; omega
                | false =>
                  have HF2 := hide (show IsI A y1 (m + 1) (am == y1) from ⟨fun e => ⟨m, by omega, by rw [unhide HAM]; simpa using e⟩, fun ⟨j, hj, e⟩ => by
                    by_cases hjm : j = m
                    · subst hjm; rw [unhide HAM] at e; simpa using e
                    · exact absurd ((unhide HF).2 ⟨j, by omega, e⟩) (by decide)⟩)
                  go_wp2
                  go_quiet (fail)
                  go_wp2
                  go_roundw
                  case rel => exact ⟨m + 1, d + _, by omega, by go_num, by rw [← unhide HXD]; exact drewN_drewN _ _ _, (am == y1), rfl, unhide HF2⟩
                  case measure => simp [intOf]; omega
              · have hmn' : ¬ (m : Int) < (na : Int) := by omega
                obtain rfl : m = na := by omega
                have hmem : f = true ↔ y1 ∈ secs A := by rw [secs_mem, ← unhide HNA]; exact unhide HF
                clear HF hmn
                cases f with
                | true =>
                  have HRR := hide (show LsI w raw (k + 1) (.slice pv m cv) xd from ⟨A, by rw [unhide HA, unhide HST, if_pos (hmem.1 rfl)], by have := unhide HOD; rw [unhide HNA] at this ⊢; exact this, by rw [← unhide HNA]; exact hA16, unhide HBD⟩)
                  clear hmem
                  go_wp2
                  go_roundw
                  case rel => exact ⟨k + 1, by omega, by go_num, unhide HRR⟩
                  case measure => simp [intOf]; omega
                | false =>
                  have HNB := hide (show lstF [] raw = lstF (A ++ [(y1, y2)]) (raw.drop (k + 1)) from by rw [unhide HA, unhide HST, if_neg (fun q => by have := hmem.2 q; cases this)])
                  have hld := load_wr xd wb 0 y1 y2 hb0d hb1d
                  have HRA := hide (show (xd.alloc (.cells #[.int .i64 y1, .string y2] 53)).ownsRow w.heap.size 53 2 (.slice pv m cv) m (wrv A) from (unhide HOD).alloc _)
                  have HXS := hide (show w.heap.size ≤ (xd.alloc (.cells #[.int .i64 y1, .string y2] 53)).heap.size from by have := (unhide HBD).size; simp; omega)
                  clear hmem
                  go_wp2_with (refine wpList_append_own _ rfl (.tmp 52) (.tmp 54) 22 rfl w.heap.size 53 i0 (.agg #[.int .i64 0, .string ⟨#[]⟩]) 2 24 Tryz.underlying22 (unhide HI).1 (unhide HI).2.1 (unhide HI).2.2.1 (unhide HI).2.2.2 rfl (by decide) _ m (wrv A) rfl (unhide HRA) ⟨xd.heap.size, 0, none⟩ 1 1 (wrv [(y1, y2)]) rfl rfl (fun q u hu => news_two xd 53 _ _ q u hu) (by simp [wrv, Value.oneCell']) (by unfold maxLen; omega) (by omega) (unhide HXS) ?_)
                  intro v5 x5 ho5 hg5 _
                  have HRR := hide (show LsI w raw (k + 1) v5 x5 from ⟨A ++ [(y1, y2)], unhide HNB, by rw [wrv_app]; simpa [unhide HNA] using ho5, by simp [← unhide HNA]; omega, ((unhide HBD).alloc (unhide HBD).size _).grown hg5 (unhide HXS) (fun q hq => ((unhide HRA).lt q hq).1)⟩)
                  clear ho5 hg5
                  go_wp2
                  go_roundw
                  case rel => exact ⟨k + 1, by omega, by go_num, unhide HRR⟩
                  case measure => simp [intOf]; omega
          · simp only [List.getElem_toArray, List.getElem_cons_succ, List.getElem_cons_zero]
            go_simp
            obtain ⟨z2, hz⟩ : ∃ x, x = (wo.alloc (Obj.cells #[.int .i64 0, .string ⟨#[]⟩] 53)).drew := ⟨_, rfl⟩
            have BZ : Blk z2 wo.heap.size #[.int .i64 0, .string ⟨#[]⟩] 53 := by rw [hz]; exact Blk.new wo _ _
            have hbz : Below wo.heap.size wo z2 := by rw [hz]; exact ((Below.refl _ wo).alloc (Nat.le_refl _) _).drew
            have HBz2 := hide hbz
            rw [← hz]
            replace hz := hide hz
            obtain ⟨wb, hwb⟩ : ∃ q, wo.heap.size = q := ⟨_, rfl⟩
            have HWB := hide (show wo.heap.size ≤ wb from Nat.le_of_eq hwb)
            rw [hwb] at BZ ⊢
            have HBZ := hide BZ
            clear BZ hbz hwb
            refine hK.out _ _ (unhide HSO _ (unhide HBz2)) (fun hS => ?_)
            clear hK K
            refine wpAnyH_ready (rs := [12]) (by kernel_rfl) (by simp) ?_
            refine AllReadyH.cons rfl (fun K hK => ?_) AllReadyH.nil
            simp only [List.getElem_toArray, List.getElem_cons_succ, List.getElem_cons_zero]
            go_simp
            refine (unhide HSH _).mono ?_
            rintro ev z3 ⟨rfl, hbz⟩
            have HBz3 := hide ((unhide HBz2).trans (hbz.mono (unhide HBz2).size))
            replace HBZ := hide ((unhide HBZ).below hbz (unhide HBZ).lt)
            clear hbz
            refine hK.out _ _ (unhide HSO _ (unhide HBz3)) (fun hS => ?_)
            clear hK K
            refine wpAnyH_takeD 13 (some 32) (.agg #[.int .i64 y1, .string y2]) rfl rfl (by kernel_rfl) (by kernel_rfl) (by kernel_rfl) (fun _ _ _ h => h) (Or.inl ⟨by rfl, fun w hSw => by obtain ⟨q1, q2⟩ := hSw; go_simp⟩) hS ?_
            simp only [Act.put, List.setIfInBounds_toArray, List.set_cons_zero, List.set_cons_succ]
            refine wpAnyH_ready (rs := [15]) (by kernel_rfl) (by simp) ?_
            refine AllReadyH.cons rfl (fun K hK => ?_) AllReadyH.nil
            have f0 := (unhide HBZ).frozen 0
            have f1 := (unhide HBZ).frozen 1
            have e0 : z3.cell? ⟨wb, 0, none⟩ = some (.int .i64 0) := (unhide HBZ).cell 0
            have e1 : z3.cell? ⟨wb, 1, none⟩ = some (.string ⟨#[]⟩) := (unhide HBZ).cell 1
            simp only [List.getElem_toArray, List.getElem_cons_succ, List.getElem_cons_zero]
            go_simp
            obtain ⟨xs, hxs⟩ : ∃ x, x = (z3.setCell ⟨wb, 0, none⟩ (.int .i64 y1)).setCell ⟨wb, 1, none⟩ (.string y2) := ⟨_, rfl⟩
            have BB : Blk xs wb #[.int .i64 y1, .string y2] 53 := by rw [hxs]; exact ((unhide HBZ).set 0 _).set 1 _
            have hbx : Below wo.heap.size wo xs := by rw [hxs]; exact ((unhide HBz3).setCell (unhide HWB) _).setCell (unhide HWB) _
            have HBB := hide BB
            have HBX := hide hbx
            rw [← hxs]
            replace hxs := hide hxs
            refine hK.out _ _ (unhide HSO _ hbx) (fun hS => ?_)
            clear hK K BB hbx f0 f1 e0 e1
            refine wpAnyH_done (by kernel_rfl) ?_ _
            clear hS
            have hb0 : xs.cell? ⟨wb, 0, none⟩ = some (.int .i64 y1) := (unhide HBB).cell 0
            have hb1 : xs.cell? ⟨wb, 1, none⟩ = some (.string y2) := (unhide HBB).cell 1
            have HOX := hide (show xs.ownsRow w.heap.size 53 2 (.slice pv na cv) na (wrv A) from owns_only (unhide HO) (Only.of_below (P := fun _ => False) (unhide HBX)) (fun _ _ q => q))
            have HBW := hide ((unhide HB).trans ((unhide HBX).mono (unhide HB).size))
            clear HPK HSH HSO hSy0 HBz0
            go_wp2
            go_loopw [6, 7] (fun u i wr => ∃ m d : Nat, m ≤ na ∧ i = .int .i64 (m : Int) ∧ wr = xs.drewN d ∧ (∃ f : Bool, u = .bool f ∧ IsI A y1 m f)) (fun _ i _ => na - (intOf i).toNat)
            case atStart => exact ⟨0, 0, by omega, rfl, rfl, false, rfl, ⟨fun q => (by cases q), fun ⟨j, hj, _⟩ => absurd hj (by omega)⟩⟩
            case round =>
              obtain ⟨m, d, hm, rfl, rfl, f, rfl, hF⟩ := hrel
              have HF := hide hF
              clear hF
              have hb0d : (xs.drewN d).cell? ⟨wb, 0, none⟩ = some (.int .i64 y1) := hb0
              have hb1d : (xs.drewN d).cell? ⟨wb, 1, none⟩ = some (.string y2) := hb1
              have HOD := hide (show (xs.drewN d).ownsRow w.heap.size 53 2 (.slice pv na cv) na (wrv A) from unhide HOX)
              have HBD := hide (show Below w.heap.size w (xs.drewN d) from below_drewN (unhide HBW) d)
              obtain ⟨xd, hxd⟩ : ∃ q, xs.drewN d = q := ⟨_, rfl⟩
              rw [hxd] at hb0d hb1d HOD HBD ⊢
              have HXD := hide hxd
              clear hxd
              by_cases hmn : m < na
              · have hmn' : (m : Int) < (na : Int) := by omega
                obtain ⟨gv, cap', ev, _⟩ := (unhide HOD).form (by omega)
                have hpv : pv = some ⟨gv, 0, none⟩ := by simp at ev; exact ev.1
                subst hpv
                have hml : m < A.length := by rw [← unhide HNA]; exact hmn
                obtain ⟨a1, _⟩ := wrv_at A m hml
                have cm : xd.cell? ⟨gv, m * 2, none⟩ = some (.int .i64 (A.getD m wr0).1) := by rw [(own_at2 (unhide HOD) rfl (m * 2) (by omega)).1]; exact a1
                have m0 : 0 ≤ (m : Int) := by omega
                obtain ⟨am, ham⟩ : ∃ q, (A.getD m wr0).1 = q := ⟨_, rfl⟩
                rw [ham] at cm
                have HAM := hide ham
                clear ev a1 ham hml
                cases f with
                | true =>
                  have HF2 := hide (show IsI A y1 (m + 1) true from ⟨fun _ => by obtain ⟨j, hj, e⟩ := (unhide HF).1 rfl; exact ⟨j, by omega, e⟩, fun _ => rfl⟩)
                  go_wp2
                  go_quiet (fail)
                  go_wp2
                  go_roundw
                  case rel => exact ⟨m + 1, d + _, by omega, by go_num, by rw [← unhide HXD]; exact drewN_drewN _ _ _, true, rfl, unhide HF2⟩
                  case measure => simp [intOf]; omega
                | false =>
                  have HF2 := hide (show IsI A y1 (m + 1) (am == y1) from ⟨fun e => ⟨m, by omega, by rw [unhide HAM]; simpa using e⟩, fun ⟨j, hj, e⟩ => by
                    by_cases hjm : j = m
                    · subst hjm; rw [unhide HAM] at e; simpa using e
                    · exact absurd ((unhide HF).2 ⟨j, by omega, e⟩) (by decide)⟩)
                  go_wp2
                  go_quiet (fail)
                  go_wp2
                  go_roundw
                  case rel => exact ⟨m + 1, d + _, by omega, by go_num, by rw [← unhide HXD]; exact drewN_drewN _ _ _, (am == y1), rfl, unhide HF2⟩
                  case measure => simp [intOf]; omega
              · have hmn' : ¬ (m : Int) < (na : Int) := by omega
                obtain rfl : m = na := by omega
                have hmem : f = true ↔ y1 ∈ secs A := by rw [secs_mem, ← unhide HNA]; exact unhide HF
                clear HF hmn
                cases f with
                | true =>
                  have HRR := hide (show LsI w raw (k + 1) (.slice pv m cv) xd from ⟨A, by rw [unhide HA, unhide HST, if_pos (hmem.1 rfl)], by have := unhide HOD; rw [unhide HNA] at this ⊢; exact this, by rw [← unhide HNA]; exact hA16, unhide HBD⟩)
                  clear hmem
                  go_wp2
                  go_roundw
                  case rel => exact ⟨k + 1, by omega, by go_num, unhide HRR⟩
                  case measure => simp [intOf]; omega
                | false =>
                  have HNB := hide (show lstF [] raw = lstF (A ++ [(y1, y2)]) (raw.drop (k + 1)) from by rw [unhide HA, unhide HST, if_neg (fun q => by have := hmem.2 q; cases this)])
                  have hld := load_wr xd wb 0 y1 y2 hb0d hb1d
                  have HRA := hide (show (xd.alloc (.cells #[.int .i64 y1, .string y2] 53)).ownsRow w.heap.size 53 2 (.slice pv m cv) m (wrv A) from (unhide HOD).alloc _)
                  have HXS := hide (show w.heap.size ≤ (xd.alloc (.cells #[.int .i64 y1, .string y2] 53)).heap.size from by have := (unhide HBD).size; simp; omega)
                  clear hmem
                  go_wp2_with (refine wpList_append_own _ rfl (.tmp 52) (.tmp 54) 22 rfl w.heap.size 53 i0 (.agg #[.int .i64 0, .string ⟨#[]⟩]) 2 24 Tryz.underlying22 (unhide HI).1 (unhide HI).2.1 (unhide HI).2.2.1 (unhide HI).2.2.2 rfl (by decide) _ m (wrv A) rfl (unhide HRA) ⟨xd.heap.size, 0, none⟩ 1 1 (wrv [(y1, y2)]) rfl rfl (fun q u hu => news_two xd 53 _ _ q u hu) (by simp [wrv, Value.oneCell']) (by unfold maxLen; omega) (by omega) (unhide HXS) ?_)
                  intro v5 x5 ho5 hg5 _
                  have HRR := hide (show LsI w raw (k + 1) v5 x5 from ⟨A ++ [(y1, y2)], unhide HNB, by rw [wrv_app]; simpa [unhide HNA] using ho5, by simp [← unhide HNA]; omega, ((unhide HBD).alloc (unhide HBD).size _).grown hg5 (unhide HXS) (fun q hq => ((unhide HRA).lt q hq).1)⟩)
                  clear ho5 hg5
                  go_wp2
                  go_roundw
                  case rel => exact ⟨k + 1, by omega, by go_num, unhide HRR⟩
                  case measure => simp [intOf]; omega
        · simp only [List.getElem_toArray, List.getElem_cons_succ, List.getElem_cons_zero]
          go_simp
          obtain ⟨z1, hz⟩ : ∃ x, x = (wo.alloc (Obj.cells #[.int .i64 0, .string ⟨#[]⟩] 53)).drew := ⟨_, rfl⟩
          have BZ : Blk z1 wo.heap.size #[.int .i64 0, .string ⟨#[]⟩] 53 := by rw [hz]; exact Blk.new wo _ _
          have hbz : Below wo.heap.size wo z1 := by rw [hz]; exact ((Below.refl _ wo).alloc (Nat.le_refl _) _).drew
          have HBz1 := hide hbz
          rw [← hz]
          replace hz := hide hz
          obtain ⟨wb, hwb⟩ : ∃ q, wo.heap.size = q := ⟨_, rfl⟩
          have HWB := hide (show wo.heap.size ≤ wb from Nat.le_of_eq hwb)
          rw [hwb] at BZ ⊢
          have HBZ := hide BZ
          clear BZ hbz hwb
          refine hK.out _ _ (unhide HSO _ (unhide HBz1)) (fun hS => ?_)
          clear hK K
          refine wpAnyH_ready (rs := [5]) (by kernel_rfl) (by simp) ?_
          refine AllReadyH.cons rfl (fun K hK => ?_) AllReadyH.nil
          simp only [List.getElem_toArray, List.getElem_cons_succ, List.getElem_cons_zero]
          go_simp
          refine (unhide HPK _).mono ?_
          rintro ev z2 ⟨rfl, rfl⟩
          refine hK.out _ _ (unhide HSO _ (unhide HBz1)) (fun hS => ?_)
          clear hK K
          refine wpAnyH_takeD 6 (some 25) (.int .i64 y1) rfl rfl (by kernel_rfl) (by kernel_rfl) (by kernel_rfl) (fun _ _ _ h => h) (Or.inl ⟨by rfl, fun w hSw => by obtain ⟨q1, q2⟩ := hSw; go_simp⟩) hS ?_
          simp only [Act.put, List.setIfInBounds_toArray, List.set_cons_zero, List.set_cons_succ]
          refine wpAnyH_ready (rs := [12]) (by kernel_rfl) (by simp) ?_
          refine AllReadyH.cons rfl (fun K hK => ?_) AllReadyH.nil
          simp only [List.getElem_toArray, List.getElem_cons_succ, List.getElem_cons_zero]
          go_simp
          refine (unhide HSH _).mono ?_
          rintro ev z3 ⟨rfl, hbz⟩
          have HBz3 := hide ((unhide HBz1).trans (hbz.mono (unhide HBz1).size))
          replace HBZ := hide ((unhide HBZ).below hbz (unhide HBZ).lt)
          clear hbz
          refine hK.out _ _ (unhide HSO _ (unhide HBz3)) (fun hS => ?_)
          clear hK K
          refine wpAnyH_takeD 13 (some 32) (.agg #[.int .i64 y1, .string y2]) rfl rfl (by kernel_rfl) (by kernel_rfl) (by kernel_rfl) (fun _ _ _ h => h) (Or.inl ⟨by rfl, fun w hSw => by obtain ⟨q1, q2⟩ := hSw; go_simp⟩) hS ?_
          simp only [Act.put, List.setIfInBounds_toArray, List.set_cons_zero, List.set_cons_succ]
          refine wpAnyH_ready (rs := [15]) (by kernel_rfl) (by simp) ?_
          refine AllReadyH.cons rfl (fun K hK => ?_) AllReadyH.nil
          have f0 := (unhide HBZ).frozen 0
          have f1 := (unhide HBZ).frozen 1
          have e0 : z3.cell? ⟨wb, 0, none⟩ = some (.int .i64 0) := (unhide HBZ).cell 0
          have e1 : z3.cell? ⟨wb, 1, none⟩ = some (.string ⟨#[]⟩) := (unhide HBZ).cell 1
          simp only [List.getElem_toArray, List.getElem_cons_succ, List.getElem_cons_zero]
          go_simp
          obtain ⟨xs, hxs⟩ : ∃ x, x = (z3.setCell ⟨wb, 0, none⟩ (.int .i64 y1)).setCell ⟨wb, 1, none⟩ (.string y2) := ⟨_, rfl⟩
          have BB : Blk xs wb #[.int .i64 y1, .string y2] 53 := by rw [hxs]; exact ((unhide HBZ).set 0 _).set 1 _
          have hbx : Below wo.heap.size wo xs := by rw [hxs]; exact ((unhide HBz3).setCell (unhide HWB) _).setCell (unhide HWB) _
          have HBB := hide BB
          have HBX := hide hbx
          rw [← hxs]
          replace hxs := hide hxs
          refine hK.out _ _ (unhide HSO _ hbx) (fun hS => ?_)
          clear hK K BB hbx f0 f1 e0 e1
          refine wpAnyH_done (by kernel_rfl) ?_ _
          clear hS
          have hb0 : xs.cell? ⟨wb, 0, none⟩ = some (.int .i64 y1) := (unhide HBB).cell 0
          have hb1 : xs.cell? ⟨wb, 1, none⟩ = some (.string y2) := (unhide HBB).cell 1
          have HOX := hide (show xs.ownsRow w.heap.size 53 2 (.slice pv na cv) na (wrv A) from owns_only (unhide HO) (Only.of_below (P := fun _ => False) (unhide HBX)) (fun _ _ q => q))
          have HBW := hide ((unhide HB).trans ((unhide HBX).mono (unhide HB).size))
          clear HPK HSH HSO hSy0 HBz0
          go_wp2
          go_loopw [6, 7] (fun u i wr => ∃ m d : Nat, m ≤ na ∧ i = .int .i64 (m : Int) ∧ wr = xs.drewN d ∧ (∃ f : Bool, u = .bool f ∧ IsI A y1 m f)) (fun _ i _ => na - (intOf i).toNat)
          case atStart => exact ⟨0, 0, by omega, rfl, rfl, false, rfl, ⟨fun q => (by cases q), fun ⟨j, hj, _⟩ => absurd hj (by omega)⟩⟩
          case round =>
            obtain ⟨m, d, hm, rfl, rfl, f, rfl, hF⟩ := hrel
            have HF := hide hF
            clear hF
            have hb0d : (xs.drewN d).cell? ⟨wb, 0, none⟩ = some (.int .i64 y1) := hb0
            have hb1d : (xs.drewN d).cell? ⟨wb, 1, none⟩ = some (.string y2) := hb1
            have HOD := hide (show (xs.drewN d).ownsRow w.heap.size 53 2 (.slice pv na cv) na (wrv A) from unhide HOX)
            have HBD := hide (show Below w.heap.size w (xs.drewN d) from below_drewN (unhide HBW) d)
            obtain ⟨xd, hxd⟩ : ∃ q, xs.drewN d = q := ⟨_, rfl⟩
            rw [hxd] at hb0d hb1d HOD HBD ⊢
            have HXD := hide hxd
            clear hxd
            by_cases hmn : m < na
            · have hmn' : (m : Int) < (na : Int) := by omega
              obtain ⟨gv, cap', ev, _⟩ := (unhide HOD).form (by omega)
              have hpv : pv = some ⟨gv, 0, none⟩ := by simp at ev; exact ev.1
              subst hpv
              have hml : m < A.length := by rw [← unhide HNA]; exact hmn
              obtain ⟨a1, _⟩ := wrv_at A m hml
              have cm : xd.cell? ⟨gv, m * 2, none⟩ = some (.int .i64 (A.getD m wr0).1) := by rw [(own_at2 (unhide HOD) rfl (m * 2) (by omega)).1]; exact a1
              have m0 : 0 ≤ (m : Int) := by omega
              obtain ⟨am, ham⟩ : ∃ q, (A.getD m wr0).1 = q := ⟨_, rfl⟩
              rw [ham] at cm
              have HAM := hide ham
              clear ev a1 ham hml
              cases f with
              | true =>
                have HF2 := hide (show IsI A y1 (m + 1) true from ⟨fun _ => by obtain ⟨j, hj, e⟩ := (unhide HF).1 rfl; exact ⟨j, by omega, e⟩, fun _ => rfl⟩)
                go_wp2
                go_quiet (fail)
                go_wp2
                go_roundw
                case rel => exact ⟨m + 1, d + _, by omega, by go_num, by rw [← unhide HXD]; exact drewN_drewN _ _ _, true, rfl, unhide HF2⟩
                case measure => simp [intOf]; omega
              | false =>
                have HF2 := hide (show IsI A y1 (m + 1) (am == y1) from ⟨fun e => ⟨m, by omega, by rw [unhide HAM]; simpa using e⟩, fun ⟨j, hj, e⟩ => by
                  by_cases hjm : j = m
                  · subst hjm; rw [unhide HAM] at e; simpa using e
                  · exact absurd ((unhide HF).2 ⟨j, by omega, e⟩) (by decide)⟩)
                go_wp2
                go_quiet (fail)
                go_wp2
                go_roundw
                case rel => exact ⟨m + 1, d + _, by omega, by go_num, by rw [← unhide HXD]; exact drewN_drewN _ _ _, (am == y1), rfl, unhide HF2⟩
                case measure => simp [intOf]; omega
            · have hmn' : ¬ (m : Int) < (na : Int) := by omega
              obtain rfl : m = na := by omega
              have hmem : f = true ↔ y1 ∈ secs A := by rw [secs_mem, ← unhide HNA]; exact unhide HF
              clear HF hmn
              cases f with
              | true =>
                have HRR := hide (show LsI w raw (k + 1) (.slice pv m cv) xd from ⟨A, by rw [unhide HA, unhide HST, if_pos (hmem.1 rfl)], by have := unhide HOD; rw [unhide HNA] at this ⊢; exact this, by rw [← unhide HNA]; exact hA16, unhide HBD⟩)
                clear hmem
                go_wp2
                go_roundw
                case rel => exact ⟨k + 1, by omega, by go_num, unhide HRR⟩
                case measure => simp [intOf]; omega
              | false =>
                have HNB := hide (show lstF [] raw = lstF (A ++ [(y1, y2)]) (raw.drop (k + 1)) from by rw [unhide HA, unhide HST, if_neg (fun q => by have := hmem.2 q; cases this)])
                have hld := load_wr xd wb 0 y1 y2 hb0d hb1d
                have HRA := hide (show (xd.alloc (.cells #[.int .i64 y1, .string y2] 53)).ownsRow w.heap.size 53 2 (.slice pv m cv) m (wrv A) from (unhide HOD).alloc _)
                have HXS := hide (show w.heap.size ≤ (xd.alloc (.cells #[.int .i64 y1, .string y2] 53)).heap.size from by have := (unhide HBD).size; simp; omega)
                clear hmem
                go_wp2_with (refine wpList_append_own _ rfl (.tmp 52) (.tmp 54) 22 rfl w.heap.size 53 i0 (.agg #[.int .i64 0, .string ⟨#[]⟩]) 2 24 Tryz.underlying22 (unhide HI).1 (unhide HI).2.1 (unhide HI).2.2.1 (unhide HI).2.2.2 rfl (by decide) _ m (wrv A) rfl (unhide HRA) ⟨xd.heap.size, 0, none⟩ 1 1 (wrv [(y1, y2)]) rfl rfl (fun q u hu => news_two xd 53 _ _ q u hu) (by simp [wrv, Value.oneCell']) (by unfold maxLen; omega) (by omega) (unhide HXS) ?_)
                intro v5 x5 ho5 hg5 _
                have HRR := hide (show LsI w raw (k + 1) v5 x5 from ⟨A ++ [(y1, y2)], unhide HNB, by rw [wrv_app]; simpa [unhide HNA] using ho5, by simp [← unhide HNA]; omega, ((unhide HBD).alloc (unhide HBD).size _).grown hg5 (unhide HXS) (fun q hq => ((unhide HRA).lt q hq).1)⟩)
                clear ho5 hg5
                go_wp2
                go_roundw
                case rel => exact ⟨k + 1, by omega, by go_num, unhide HRR⟩
                case measure => simp [intOf]; omega
      · have h16' : ¬ (na : Int) < 16 := by omega
        have HE := hide (show lstF [] raw = A from by rw [unhide HA]; exact lstF_full A _ (by rw [← unhide HNA]; exact h16))
        go_wp2
        go_ret
        exact unhide HFIN A pv na cv wo (unhide HE) (by have := unhide HO; rw [unhide HNA] at this ⊢; exact this) (unhide HNA) (unhide HB)
    · have hkn' : ¬ (k : Int) < (n : Int) := by omega
      have HE := hide (show lstF [] raw = A from by rw [unhide HA, List.drop_of_length_le (by rw [← unhide HN]; omega)]; rfl)
      go_wp2
      go_ret
      exact unhide HFIN A pv na cv wo (unhide HE) (by have := unhide HO; rw [unhide HNA] at this ⊢; exact this) (unhide HNA) (unhide HB)
end Go.Proofs.YtaepdekpdiofnaaGreatDoor
