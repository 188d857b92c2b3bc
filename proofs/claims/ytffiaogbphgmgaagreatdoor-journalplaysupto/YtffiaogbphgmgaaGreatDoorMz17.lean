import Derived.Test.YtffiaogbphgmgaaGreatDoorMz16
import Derived.Deep.RegionHeld3
namespace Go.Proofs.YtffiaogbphgmgaaGreatDoor
open Go.RowKit
/-- A journal that was made over the disk at b, which is s now. -/
def JNew (base b : Nat) (v : DV) (s : DSt) (jb nx : Nat) (w w' : World) : Prop :=
  ∃ v', Dk w' base b v' s ∧ Jb w' jb b nx false ∧ ¬ Fd b v' jb ∧ w.heap.size ≤ jb ∧ Only (Fd b v) w w' ∧ ∀ k, Fd b v' k → Fd b v k ∨ w.heap.size ≤ k
def OpenPost (base b : Nat) (v : DV) (s : DSt) (w : World) (e : Ending) (w' : World) : Prop :=
  (readE s 1 ≠ 0 ∧ e = .returned (.tuple #[.pointer none, .bool false, .int .i64 (readE s 1)]) ∧ DPost base b v s w w') ∨
  (readE s 1 = 0 ∧ ∃ (n : Nat) (H : List Int) (ok : Bool), n < 4294967296 ∧ RHP (readT s 1) (s.last.length : Int) (n : Int) H ok ∧
    ((ok = false ∧ e = .returned (.tuple #[.pointer none, .bool false, .int .i64 53]) ∧ DPost base b v s w w') ∨
     (ok = true ∧ H.length = 0 ∧ ∃ jb, e = .returned (.tuple #[.pointer (some ⟨jb, 0, none⟩), .bool false, .int .i64 0]) ∧ JNew base b v s jb ((n + 1) % 4294967296) w w') ∨
     (ok = true ∧ 0 < H.length ∧ (redoR s n H).1 ≠ 0 ∧ e = .returned (.tuple #[.pointer none, .bool false, .int .i64 (redoR s n H).1]) ∧ DPost base b v (redoR s n H).2 w w') ∨
     (ok = true ∧ 0 < H.length ∧ (redoR s n H).1 = 0 ∧ ∃ jb, e = .returned (.tuple #[.pointer (some ⟨jb, 0, none⟩), .bool true, .int .i64 0]) ∧ JNew base b v (redoR s n H).2 jb ((n + 1) % 4294967296) w w')))
theorem RHP.num {t : ByteArray} {size n : Int} {H : List Int} {ok : Bool} (h : RHP t size n H ok) : 0 ≤ n ∧ n < 4294967296 ∧ (ok = true → H.length ≤ 16) := by
  rcases h with ⟨_, rfl, rfl, rfl⟩ | ⟨⟨h1, _⟩, rfl, h3⟩
  · exact ⟨by decide, by decide, fun q => by cases q⟩
  · have := prOk_fit t h1
    refine ⟨this.1, by omega, fun q => ?_⟩
    rcases h3 with ⟨_, _, rfl⟩ | ⟨_, rfl, _⟩
    · simp at q; omega
    · simp
/-- Of a disk's blocks and blocks that came behind them. -/
theorem JNew.make {w y z : World} {base b jb nx : Nat} {v : DV} {s : DSt} (hP : DPost base b v s w y) (hb : Below y.heap.size y z) (hj : y.heap.size ≤ jb) (hJ : Jb z jb b nx false) : JNew base b v s jb nx w z := by
  obtain ⟨v', h1, h2, h3⟩ := hP
  have hs := h2.size
  exact ⟨v', h1.below hb, hJ, fun q => by have := (h1.fd _ q).2; omega, by omega, h2.trans (Only.of_below (P := fun _ => False) hb) (fun _ _ q => q.elim), h3⟩
theorem row_inlJ {w : World} {base : Nat} {p : Option Addr} {c m : Nat} {L : List Int} (h : w.ownsRow base 3 1 (.slice p m c) m (L.map (Value.int .i64))) (hm : m = L.length) : Inl w p L := by
  by_cases h0 : 0 < L.length
  · obtain ⟨g, cap, e, hb, _⟩ := h.form (by omega)
    simp at e
    obtain ⟨rfl, rfl⟩ := e
    refine .inr ⟨g, 0, rfl, (h.lt g rfl).2, fun j hj => ?_⟩
    rw [Nat.zero_add, (own_at h rfl j (by omega)).1]
    simp [List.getD_eq_getElem?_getD, hj]
  · exact .inl (List.eq_nil_of_length_eq_zero (by omega))
set_option maxRecDepth 100000 in
set_option maxHeartbeats 2000000 in
theorem open_any (w : World) (base b : Nat) (v : DV) (s : DSt) (h : Dk w base b v s) (hg : ETy w) (hb : base ≤ w.heap.size) (hS : Sane s) (ht : (readT s 1).size ≤ 9223372036854775807) (hp : s.pend.length ≤ 100000000) (ha : s.acts.length ≤ 90000000) :
    Calls Tryz.prog 29 #[.pointer (some ⟨b, 0, none⟩)] w (OpenPost base b v s w) := by
  have HRD := hide (read_any w base b v s h hS.same 1)
  have HSZ := hide (size_any w base b v s h)
  have HRH := hide (readHead_any w hg (readT s 1) ht (s.last.length : Int))
  have HD := hide h
  have HS := hide hS
  have HP0 := hide (DPost.refl h)
  have hlt : ∀ k, Fd b v k → k < w.heap.size := fun k hk => (h.fd k hk).2
  have HLT := hide hlt
  clear h hS hlt hg ht
  obtain ⟨sz, hsz⟩ : ∃ z, (s.last.length : Int) = z := ⟨_, rfl⟩
  obtain ⟨t, htt⟩ : ∃ t, readT s 1 = t := ⟨_, rfl⟩
  rw [hsz] at HSZ HRH
  rw [htt] at HRD HRH
  have HT := hide (And.intro hsz htt)
  clear hsz htt
  go_enter Tryz.func29, Tryz.ntmps29
  go_wp2_with fail
  refine (unhide HRD).mono ?_
  rintro e x1 ⟨rfl, rfl⟩
  by_cases he : readE s 1 = 0
  · have HE := hide he
    rw [he]
    clear he
    go_wp2_with fail
    refine (unhide HSZ).mono ?_
    rintro e x2 ⟨rfl, rfl⟩
    go_wp2_with fail
    refine (unhide HRH).mono ?_
    rintro e x3 ⟨p, c, H, n0, ok, rfl, hR, hrow, hb3⟩
    obtain ⟨hn0, hn1, h16⟩ := hR.num
    obtain ⟨n, rfl⟩ : ∃ n : Nat, n0 = (n : Int) := ⟨n0.toNat, by omega⟩
    have hn : n < 4294967296 := by omega
    obtain ⟨m, hm⟩ : ∃ m, m = H.length := ⟨_, rfl⟩
    rw [← hm] at hrow h16 ⊢
    have HIN := hide (row_inlJ hrow hm)
    have HRR := hide (show RHP (readT s 1) (s.last.length : Int) (n : Int) H ok from by rw [(unhide HT).1, (unhide HT).2]; exact hR)
    have HM := hide hm
    obtain ⟨x4, hx4⟩ : ∃ x, x = x3.alloc (Obj.cells #[.int .u32 (n : Int), .slice p m c] 95) := ⟨_, rfl⟩
    have B4 : Blk x4 x3.heap.size #[.int .u32 (n : Int), .slice p m c] 95 := by rw [hx4]; exact Blk.new x3 _ _
    have hb4 : Below x2.heap.size x2 x4 := by rw [hx4]; exact hb3.alloc hb3.size _
    have hI4 : Inl x4 p H := (unhide HIN).only (show Only (fun _ => False) x3 x4 from by rw [hx4]; exact (Only.refl _ x3).alloc _) (fun _ _ _ _ q => q)
    have hg4 : x2.heap.size ≤ x3.heap.size := hb3.size
    have HB4 := hide (And.intro B4 (And.intro hb4 (And.intro hI4 hg4)))
    clear hrow hb3 hR hm HSZ HRH HRD hn0 hn1 B4 hb4 hI4 hg4 HIN
    cases ok with
    | false =>
      have HPO := hide (show OpenPost base b v s x2 (.returned (.tuple #[.pointer none, .bool false, .int .i64 53])) x4 from .inr ⟨unhide HE, n, H, false, hn, unhide HRR, .inl ⟨rfl, rfl, (unhide HP0).belowR (unhide HB4).2.1⟩⟩)
      clear h16
      go_wp2
      go_ret3
      rw [← hx4]
      exact unhide HPO
    | true =>
      have h16' := h16 rfl
      have HIS := hide (fun (W : World) => isSet_any (n : Int) p m c W)
      clear h16
      go_wp2_with fail
      rw [← hx4]
      replace hx4 := hide hx4
      obtain ⟨gh, hgh⟩ : ∃ g, x3.heap.size = g := ⟨_, rfl⟩
      rw [hgh] at HB4 ⊢
      clear hgh
      refine (unhide HIS _).mono ?_
      rintro e x5 ⟨rfl, hb5⟩
      have B5 := (unhide HB4).1.below hb5 (unhide HB4).1.lt
      have hI5 : Inl x5 p H := (unhide HB4).2.2.1.only (Only.of_below (P := fun _ => False) hb5) (fun _ _ _ _ q => q)
      have HB5 := hide (And.intro B5 (And.intro ((unhide HB4).2.1.trans (hb5.mono (unhide HB4).2.1.size)) hI5))
      have hgl : x2.heap.size ≤ gh := (unhide HB4).2.2.2
      clear hb5 B5 hI5 HB4
      have c0 : x5.cell? ⟨gh, 0, none⟩ = some (.int .u32 (n : Int)) := (unhide HB5).1.cell 0
      have c1 : x5.cell? ⟨gh, 1, none⟩ = some (.slice p m c) := (unhide HB5).1.cell 1
      by_cases hm0 : 0 < m
      · have hd : decide (0 < m) = true := by simp [hm0]
        rw [hd]
        have HRO := hide (redo_any x5 base b v s ((unhide HD).below (unhide HB5).2.1) (Nat.le_trans hb (unhide HB5).2.1.size) (unhide HS) hp (by omega) n hn p c H m (unhide HM) (unhide HB5).2.2 h16')
        clear hd
        go_wp2_with fail
        refine (unhide HRO).mono ?_
        rintro e y1 ⟨rfl, hP1⟩
        have HP1 := hide (DPost.belowL (unhide HB5).2.1 hP1)
        have hnf : ¬ Fd b v gh := fun q => by have := unhide HLT _ q; omega
        have BY := (unhide HB5).1.only hP1.onlyW hnf
        have HBY := hide BY
        clear hP1 HRO c0 c1 hnf BY
        by_cases he : (redoR s n H).1 = 0
        · have HRE := hide he
          rw [he]
          clear he
          have hcc : y1.drew.cell? ⟨gh, 0, none⟩ = some (.int .u32 (n : Int)) ∧ y1.drew.cell? ⟨gh, 1, none⟩ = some (.slice p m c) := ⟨(unhide HBY).cell 0, (unhide HBY).cell 1⟩
          have hwr : IntKind.u32.wrap ((n : Int) + 1) = (((n + 1) % 4294967296 : Nat) : Int) := by
            have : IntKind.u32.wrap ((n : Int) + 1) = ((n : Int) + 1) % 4294967296 := by simp [IntKind.wrap, IntKind.signed, IntKind.bits]
            rw [this]; omega
          obtain ⟨nx, hnx⟩ : ∃ nx, (n + 1) % 4294967296 = nx := ⟨_, rfl⟩
          rw [hnx] at hwr
          have HNX := hide hnx
          clear hnx
          go_wp2_with fail
          refine wp_region_held_drew (S := fun w' => w'.cell? ⟨gh, 0, none⟩ = some (.int .u32 (n : Int)) ∧ w'.cell? ⟨gh, 1, none⟩ = some (.slice p m c)) (by kernel_rfl) hcc ?_
          intro hS
          refine wpAnyH_takeD 0 (some 39) (.pointer (some ⟨b, 0, none⟩)) rfl rfl (by kernel_rfl) (by kernel_rfl) (by kernel_rfl) (fun _ _ _ h => h) (Or.inl ⟨by rfl, fun w hSw => by obtain ⟨q1, q2⟩ := hSw; go_simp⟩) hS ?_
          simp only [Act.put, List.setIfInBounds_toArray, List.set_cons_zero, List.set_cons_succ]
          refine wpAnyH_takeD 1 (some 40) (.pointer (some ⟨gh, 0, none⟩)) rfl rfl (by kernel_rfl) (by kernel_rfl) (by kernel_rfl) (fun _ _ _ h => h) (Or.inl ⟨by rfl, fun w hSw => by obtain ⟨q1, q2⟩ := hSw; go_simp⟩) hS ?_
          simp only [Act.put, List.setIfInBounds_toArray, List.set_cons_zero, List.set_cons_succ]
          refine wpAnyH_takeD 2 (some 41) (.int .u32 (n : Int)) rfl rfl (by kernel_rfl) (by kernel_rfl) (by kernel_rfl) (fun _ _ _ h => h) (Or.inl ⟨by rfl, fun w hSw => by obtain ⟨q1, q2⟩ := hSw; go_simp⟩) hS ?_
          simp only [Act.put, List.setIfInBounds_toArray, List.set_cons_zero, List.set_cons_succ]
          refine wpAnyH_takeD 3 (some 42) (.int .u32 (nx : Int)) rfl rfl (by kernel_rfl) (by kernel_rfl) (by kernel_rfl) (fun _ _ _ h => h) (Or.inl ⟨by rfl, fun w hSw => by obtain ⟨q1, q2⟩ := hSw; go_simp⟩) hS ?_
          simp only [Act.put, List.setIfInBounds_toArray, List.set_cons_zero, List.set_cons_succ]
          refine wpAnyH_takeD 4 (some 43) (.agg #[.pointer (some ⟨b, 0, none⟩), .int .u32 (nx : Int), .bool false]) rfl rfl (by kernel_rfl) (by kernel_rfl) (by kernel_rfl) (fun _ _ _ h => h) (Or.inl ⟨by rfl, fun w hSw => by obtain ⟨q1, q2⟩ := hSw; go_simp⟩) hS ?_
          simp only [Act.put, List.setIfInBounds_toArray, List.set_cons_zero, List.set_cons_succ]
          refine wpAnyH_takeD 6 (some 45) (.agg #[.int .u32 (n : Int), .slice p m c]) rfl rfl (by kernel_rfl) (by kernel_rfl) (by kernel_rfl) (fun _ _ _ h => h) (Or.inl ⟨by rfl, fun w hSw => by obtain ⟨q1, q2⟩ := hSw; go_simp⟩) hS ?_
          simp only [Act.put, List.setIfInBounds_toArray, List.set_cons_zero, List.set_cons_succ]
          refine wpAnyH_ready (rs := [5, 7]) (by kernel_rfl) (by simp) ?_
          refine AllReadyH.cons rfl (fun K hK => ?_) (AllReadyH.cons rfl (fun K hK => ?_) AllReadyH.nil)
          · simp only [List.getElem_toArray, List.getElem_cons_succ, List.getElem_cons_zero]
            go_simp
            obtain ⟨z1, hzz1⟩ : ∃ q, q = (y1.alloc (Obj.cells #[.pointer (some ⟨b, 0, none⟩), .int .u32 (nx : Int), .bool false] 92)).drew := ⟨_, rfl⟩
            have BJ : Jb z1 y1.heap.size b nx false := by rw [hzz1]; exact Blk.new y1 _ _
            have hbz : Below y1.heap.size y1 z1 := by rw [hzz1]; exact ((Below.refl _ y1).alloc (Nat.le_refl _) _).drew
            have HBJ := hide BJ
            rw [← hzz1]
            replace hzz1 := hide hzz1
            have HBZ := hide hbz
            have BYz := (unhide HBY).below hbz (unhide HBY).lt
            clear HBY hbz BJ
            have HBY := hide BYz
            clear BYz
            obtain ⟨jb, hjb⟩ : ∃ j, y1.heap.size = j := ⟨_, rfl⟩
            have HJL := hide (show y1.heap.size ≤ jb from Nat.le_of_eq hjb)
            rw [hjb] at HBJ ⊢
            clear hjb
            refine hK.out _ _ ⟨by rw [(unhide HBY).cell 0]; rfl, by rw [(unhide HBY).cell 1]; rfl⟩ (fun hS => ?_)
            clear hK K
            refine wpAnyH_ready (rs := [7]) (by kernel_rfl) (by simp) ?_
            refine AllReadyH.cons rfl (fun K hK => ?_) AllReadyH.nil
            simp only [List.getElem_toArray, List.getElem_cons_succ, List.getElem_cons_zero]
            go_simp
            refine (unhide HIS _).mono ?_
            rintro e z2 ⟨rfl, hb2⟩
            rw [show decide (0 < m) = true by simp [hm0]]
            have BJ2 : Jb z2 jb b nx false := Blk.below (unhide HBJ) hb2 (Blk.lt (unhide HBJ))
            have BY2 := (unhide HBY).below hb2 (unhide HBY).lt
            replace HBZ := hide ((unhide HBZ).trans (hb2.mono (unhide HBZ).size))
            clear HBJ HBY hb2
            have HBJ := hide BJ2
            have HBY := hide BY2
            clear BJ2 BY2
            refine hK.out _ _ ⟨by rw [(unhide HBY).cell 0]; rfl, by rw [(unhide HBY).cell 1]; rfl⟩ (fun hS => ?_)
            clear hK K
            refine wpAnyH_takeD 8 (some 2) (.pointer (some ⟨jb, 0, none⟩)) rfl rfl (by kernel_rfl) (by kernel_rfl) (by kernel_rfl) (fun _ _ _ h => h) (Or.inl ⟨by rfl, fun w hSw => by obtain ⟨q1, q2⟩ := hSw; go_simp⟩) hS ?_
            simp only [Act.put, List.setIfInBounds_toArray, List.set_cons_zero, List.set_cons_succ]
            refine wpAnyH_takeD 9 (some 3) (.bool true) rfl rfl (by kernel_rfl) (by kernel_rfl) (by kernel_rfl) (fun _ _ _ h => h) (Or.inl ⟨by rfl, fun w hSw => by obtain ⟨q1, q2⟩ := hSw; go_simp⟩) hS ?_
            simp only [Act.put, List.setIfInBounds_toArray, List.set_cons_zero, List.set_cons_succ]
            refine wpAnyH_takeD 10 (some 4) (.int .i64 0) rfl rfl (by kernel_rfl) (by kernel_rfl) (by kernel_rfl) (fun _ _ _ h => h) (Or.inl ⟨by rfl, fun w hSw => by obtain ⟨q1, q2⟩ := hSw; go_simp⟩) hS ?_
            simp only [Act.put, List.setIfInBounds_toArray, List.set_cons_zero, List.set_cons_succ]
            refine wpAnyH_done (by kernel_rfl) ?_ _
            clear hS
            have HPO := hide (show OpenPost base b v s x2 (.returned (.tuple #[.pointer (some ⟨jb, 0, none⟩), .bool true, .int .i64 0])) z2 from .inr ⟨unhide HE, n, H, true, hn, unhide HRR, .inr (.inr (.inr ⟨rfl, by rw [← unhide HM]; exact hm0, unhide HRE, jb, rfl, by rw [unhide HNX]; exact JNew.make (unhide HP1) (unhide HBZ) (unhide HJL) (unhide HBJ)⟩))⟩)
            clear HBJ HBY HBZ
            go_wp2
            go_ret3
            exact unhide HPO
          · simp only [List.getElem_toArray, List.getElem_cons_succ, List.getElem_cons_zero]
            go_simp
            refine (unhide HIS _).mono ?_
            rintro e z1 ⟨rfl, hb2⟩
            rw [show decide (0 < m) = true by simp [hm0]]
            have BY2 := (show Blk y1.drew gh _ _ from unhide HBY).below hb2 (unhide HBY).lt
            have HBZ0 := hide (show Below y1.heap.size y1 z1 from ((Below.refl _ y1).drew).trans hb2)
            clear HBY hb2
            have HBY := hide BY2
            clear BY2
            refine hK.out _ _ ⟨by rw [(unhide HBY).cell 0]; rfl, by rw [(unhide HBY).cell 1]; rfl⟩ (fun hS => ?_)
            clear hK K
            refine wpAnyH_ready (rs := [5]) (by kernel_rfl) (by simp) ?_
            refine AllReadyH.cons rfl (fun K hK => ?_) AllReadyH.nil
            simp only [List.getElem_toArray, List.getElem_cons_succ, List.getElem_cons_zero]
            go_simp
            obtain ⟨z2, hzz2⟩ : ∃ q, q = z1.alloc (Obj.cells #[.pointer (some ⟨b, 0, none⟩), .int .u32 (nx : Int), .bool false] 92) := ⟨_, rfl⟩
            have BJ : Jb z2 z1.heap.size b nx false := by rw [hzz2]; exact Blk.new z1 _ _
            have hbz : Below z1.heap.size z1 z2 := by rw [hzz2]; exact (Below.refl _ z1).alloc (Nat.le_refl _) _
            have HBJ := hide BJ
            rw [← hzz2]
            replace hzz2 := hide hzz2
            have HBZ := hide ((unhide HBZ0).trans (hbz.mono (unhide HBZ0).size))
            have BYz := (unhide HBY).below hbz (unhide HBY).lt
            have hjl : y1.heap.size ≤ z1.heap.size := (unhide HBZ0).size
            clear HBY hbz BJ HBZ0
            have HBY := hide BYz
            clear BYz
            obtain ⟨jb, hjb⟩ : ∃ j, z1.heap.size = j := ⟨_, rfl⟩
            rw [hjb] at HBJ hjl ⊢
            have HJL := hide hjl
            clear hjb hjl
            refine hK.out _ _ ⟨by rw [(unhide HBY).cell 0]; rfl, by rw [(unhide HBY).cell 1]; rfl⟩ (fun hS => ?_)
            clear hK K
            refine wpAnyH_takeD 8 (some 2) (.pointer (some ⟨jb, 0, none⟩)) rfl rfl (by kernel_rfl) (by kernel_rfl) (by kernel_rfl) (fun _ _ _ h => h) (Or.inl ⟨by rfl, fun w hSw => by obtain ⟨q1, q2⟩ := hSw; go_simp⟩) hS ?_
            simp only [Act.put, List.setIfInBounds_toArray, List.set_cons_zero, List.set_cons_succ]
            refine wpAnyH_takeD 9 (some 3) (.bool true) rfl rfl (by kernel_rfl) (by kernel_rfl) (by kernel_rfl) (fun _ _ _ h => h) (Or.inl ⟨by rfl, fun w hSw => by obtain ⟨q1, q2⟩ := hSw; go_simp⟩) hS ?_
            simp only [Act.put, List.setIfInBounds_toArray, List.set_cons_zero, List.set_cons_succ]
            refine wpAnyH_takeD 10 (some 4) (.int .i64 0) rfl rfl (by kernel_rfl) (by kernel_rfl) (by kernel_rfl) (fun _ _ _ h => h) (Or.inl ⟨by rfl, fun w hSw => by obtain ⟨q1, q2⟩ := hSw; go_simp⟩) hS ?_
            simp only [Act.put, List.setIfInBounds_toArray, List.set_cons_zero, List.set_cons_succ]
            refine wpAnyH_done (by kernel_rfl) ?_ _
            clear hS
            have HPO := hide (show OpenPost base b v s x2 (.returned (.tuple #[.pointer (some ⟨jb, 0, none⟩), .bool true, .int .i64 0])) z2 from .inr ⟨unhide HE, n, H, true, hn, unhide HRR, .inr (.inr (.inr ⟨rfl, by rw [← unhide HM]; exact hm0, unhide HRE, jb, rfl, by rw [unhide HNX]; exact JNew.make (unhide HP1) (unhide HBZ) (unhide HJL) (unhide HBJ)⟩))⟩)
            clear HBJ HBY HBZ
            go_wp2
            go_ret3
            exact unhide HPO
        · have hne : ((redoR s n H).1 != 0) = true := by simp [he]
          have HPO := hide (show OpenPost base b v s x2 (.returned (.tuple #[.pointer none, .bool false, .int .i64 (redoR s n H).1])) y1 from .inr ⟨unhide HE, n, H, true, hn, unhide HRR, .inr (.inr (.inl ⟨rfl, by rw [← unhide HM]; exact hm0, he, rfl, unhide HP1⟩))⟩)
          generalize (redoR s n H).1 = E at *
          clear he
          go_wp2
          go_ret3
          exact unhide HPO
      · have hd : decide (0 < m) = false := by simp; omega
        rw [hd]
        obtain rfl : m = 0 := by omega
        have HP1 := hide ((unhide HP0).belowR (unhide HB5).2.1)
        have HBY := hide (unhide HB5).1
        clear hd c0 c1
        have hcc : x5.drew.cell? ⟨gh, 0, none⟩ = some (.int .u32 (n : Int)) ∧ x5.drew.cell? ⟨gh, 1, none⟩ = some (.slice p 0 c) := ⟨(unhide HBY).cell 0, (unhide HBY).cell 1⟩
        have hwr : IntKind.u32.wrap ((n : Int) + 1) = (((n + 1) % 4294967296 : Nat) : Int) := by
          have : IntKind.u32.wrap ((n : Int) + 1) = ((n : Int) + 1) % 4294967296 := by simp [IntKind.wrap, IntKind.signed, IntKind.bits]
          rw [this]; omega
        obtain ⟨nx, hnx⟩ : ∃ nx, (n + 1) % 4294967296 = nx := ⟨_, rfl⟩
        rw [hnx] at hwr
        have HNX := hide hnx
        clear hnx
        go_wp2_with fail
        refine wp_region_held_drew (S := fun w' => w'.cell? ⟨gh, 0, none⟩ = some (.int .u32 (n : Int)) ∧ w'.cell? ⟨gh, 1, none⟩ = some (.slice p 0 c)) (by kernel_rfl) hcc ?_
        intro hS
        refine wpAnyH_takeD 0 (some 39) (.pointer (some ⟨b, 0, none⟩)) rfl rfl (by kernel_rfl) (by kernel_rfl) (by kernel_rfl) (fun _ _ _ h => h) (Or.inl ⟨by rfl, fun w hSw => by obtain ⟨q1, q2⟩ := hSw; go_simp⟩) hS ?_
        simp only [Act.put, List.setIfInBounds_toArray, List.set_cons_zero, List.set_cons_succ]
        refine wpAnyH_takeD 1 (some 40) (.pointer (some ⟨gh, 0, none⟩)) rfl rfl (by kernel_rfl) (by kernel_rfl) (by kernel_rfl) (fun _ _ _ h => h) (Or.inl ⟨by rfl, fun w hSw => by obtain ⟨q1, q2⟩ := hSw; go_simp⟩) hS ?_
        simp only [Act.put, List.setIfInBounds_toArray, List.set_cons_zero, List.set_cons_succ]
        refine wpAnyH_takeD 2 (some 41) (.int .u32 (n : Int)) rfl rfl (by kernel_rfl) (by kernel_rfl) (by kernel_rfl) (fun _ _ _ h => h) (Or.inl ⟨by rfl, fun w hSw => by obtain ⟨q1, q2⟩ := hSw; go_simp⟩) hS ?_
        simp only [Act.put, List.setIfInBounds_toArray, List.set_cons_zero, List.set_cons_succ]
        refine wpAnyH_takeD 3 (some 42) (.int .u32 (nx : Int)) rfl rfl (by kernel_rfl) (by kernel_rfl) (by kernel_rfl) (fun _ _ _ h => h) (Or.inl ⟨by rfl, fun w hSw => by obtain ⟨q1, q2⟩ := hSw; go_simp⟩) hS ?_
        simp only [Act.put, List.setIfInBounds_toArray, List.set_cons_zero, List.set_cons_succ]
        refine wpAnyH_takeD 4 (some 43) (.agg #[.pointer (some ⟨b, 0, none⟩), .int .u32 (nx : Int), .bool false]) rfl rfl (by kernel_rfl) (by kernel_rfl) (by kernel_rfl) (fun _ _ _ h => h) (Or.inl ⟨by rfl, fun w hSw => by obtain ⟨q1, q2⟩ := hSw; go_simp⟩) hS ?_
        simp only [Act.put, List.setIfInBounds_toArray, List.set_cons_zero, List.set_cons_succ]
        refine wpAnyH_takeD 6 (some 45) (.agg #[.int .u32 (n : Int), .slice p 0 c]) rfl rfl (by kernel_rfl) (by kernel_rfl) (by kernel_rfl) (fun _ _ _ h => h) (Or.inl ⟨by rfl, fun w hSw => by obtain ⟨q1, q2⟩ := hSw; go_simp⟩) hS ?_
        simp only [Act.put, List.setIfInBounds_toArray, List.set_cons_zero, List.set_cons_succ]
        refine wpAnyH_ready (rs := [5, 7]) (by kernel_rfl) (by simp) ?_
        refine AllReadyH.cons rfl (fun K hK => ?_) (AllReadyH.cons rfl (fun K hK => ?_) AllReadyH.nil)
        · simp only [List.getElem_toArray, List.getElem_cons_succ, List.getElem_cons_zero]
          go_simp
          obtain ⟨z1, hzz1⟩ : ∃ q, q = (x5.alloc (Obj.cells #[.pointer (some ⟨b, 0, none⟩), .int .u32 (nx : Int), .bool false] 92)).drew := ⟨_, rfl⟩
          have BJ : Jb z1 x5.heap.size b nx false := by rw [hzz1]; exact Blk.new x5 _ _
          have hbz : Below x5.heap.size x5 z1 := by rw [hzz1]; exact ((Below.refl _ x5).alloc (Nat.le_refl _) _).drew
          have HBJ := hide BJ
          rw [← hzz1]
          replace hzz1 := hide hzz1
          have HBZ := hide hbz
          have BYz := (unhide HBY).below hbz (unhide HBY).lt
          clear HBY hbz BJ
          have HBY := hide BYz
          clear BYz
          obtain ⟨jb, hjb⟩ : ∃ j, x5.heap.size = j := ⟨_, rfl⟩
          have HJL := hide (show x5.heap.size ≤ jb from Nat.le_of_eq hjb)
          rw [hjb] at HBJ ⊢
          clear hjb
          refine hK.out _ _ ⟨by rw [(unhide HBY).cell 0]; rfl, by rw [(unhide HBY).cell 1]; rfl⟩ (fun hS => ?_)
          clear hK K
          refine wpAnyH_ready (rs := [7]) (by kernel_rfl) (by simp) ?_
          refine AllReadyH.cons rfl (fun K hK => ?_) AllReadyH.nil
          simp only [List.getElem_toArray, List.getElem_cons_succ, List.getElem_cons_zero]
          go_simp
          refine (unhide HIS _).mono ?_
          rintro e z2 ⟨rfl, hb2⟩
          rw [show decide (0 < 0) = false by simp]
          have BJ2 : Jb z2 jb b nx false := Blk.below (unhide HBJ) hb2 (Blk.lt (unhide HBJ))
          have BY2 := (unhide HBY).below hb2 (unhide HBY).lt
          replace HBZ := hide ((unhide HBZ).trans (hb2.mono (unhide HBZ).size))
          clear HBJ HBY hb2
          have HBJ := hide BJ2
          have HBY := hide BY2
          clear BJ2 BY2
          refine hK.out _ _ ⟨by rw [(unhide HBY).cell 0]; rfl, by rw [(unhide HBY).cell 1]; rfl⟩ (fun hS => ?_)
          clear hK K
          refine wpAnyH_takeD 8 (some 2) (.pointer (some ⟨jb, 0, none⟩)) rfl rfl (by kernel_rfl) (by kernel_rfl) (by kernel_rfl) (fun _ _ _ h => h) (Or.inl ⟨by rfl, fun w hSw => by obtain ⟨q1, q2⟩ := hSw; go_simp⟩) hS ?_
          simp only [Act.put, List.setIfInBounds_toArray, List.set_cons_zero, List.set_cons_succ]
          refine wpAnyH_takeD 9 (some 3) (.bool false) rfl rfl (by kernel_rfl) (by kernel_rfl) (by kernel_rfl) (fun _ _ _ h => h) (Or.inl ⟨by rfl, fun w hSw => by obtain ⟨q1, q2⟩ := hSw; go_simp⟩) hS ?_
          simp only [Act.put, List.setIfInBounds_toArray, List.set_cons_zero, List.set_cons_succ]
          refine wpAnyH_takeD 10 (some 4) (.int .i64 0) rfl rfl (by kernel_rfl) (by kernel_rfl) (by kernel_rfl) (fun _ _ _ h => h) (Or.inl ⟨by rfl, fun w hSw => by obtain ⟨q1, q2⟩ := hSw; go_simp⟩) hS ?_
          simp only [Act.put, List.setIfInBounds_toArray, List.set_cons_zero, List.set_cons_succ]
          refine wpAnyH_done (by kernel_rfl) ?_ _
          clear hS
          have HPO := hide (show OpenPost base b v s x2 (.returned (.tuple #[.pointer (some ⟨jb, 0, none⟩), .bool false, .int .i64 0])) z2 from .inr ⟨unhide HE, n, H, true, hn, unhide HRR, .inr (.inl ⟨rfl, (unhide HM).symm, jb, rfl, by rw [unhide HNX]; exact JNew.make (unhide HP1) (unhide HBZ) (unhide HJL) (unhide HBJ)⟩)⟩)
          clear HBJ HBY HBZ
          go_wp2
          go_ret3
          exact unhide HPO
        · simp only [List.getElem_toArray, List.getElem_cons_succ, List.getElem_cons_zero]
          go_simp
          refine (unhide HIS _).mono ?_
          rintro e z1 ⟨rfl, hb2⟩
          rw [show decide (0 < 0) = false by simp]
          have BY2 := (show Blk x5.drew gh _ _ from unhide HBY).below hb2 (unhide HBY).lt
          have HBZ0 := hide (show Below x5.heap.size x5 z1 from ((Below.refl _ x5).drew).trans hb2)
          clear HBY hb2
          have HBY := hide BY2
          clear BY2
          refine hK.out _ _ ⟨by rw [(unhide HBY).cell 0]; rfl, by rw [(unhide HBY).cell 1]; rfl⟩ (fun hS => ?_)
          clear hK K
          refine wpAnyH_ready (rs := [5]) (by kernel_rfl) (by simp) ?_
          refine AllReadyH.cons rfl (fun K hK => ?_) AllReadyH.nil
          simp only [List.getElem_toArray, List.getElem_cons_succ, List.getElem_cons_zero]
          go_simp
          obtain ⟨z2, hzz2⟩ : ∃ q, q = z1.alloc (Obj.cells #[.pointer (some ⟨b, 0, none⟩), .int .u32 (nx : Int), .bool false] 92) := ⟨_, rfl⟩
          have BJ : Jb z2 z1.heap.size b nx false := by rw [hzz2]; exact Blk.new z1 _ _
          have hbz : Below z1.heap.size z1 z2 := by rw [hzz2]; exact (Below.refl _ z1).alloc (Nat.le_refl _) _
          have HBJ := hide BJ
          rw [← hzz2]
          replace hzz2 := hide hzz2
          have HBZ := hide ((unhide HBZ0).trans (hbz.mono (unhide HBZ0).size))
          have BYz := (unhide HBY).below hbz (unhide HBY).lt
          have hjl : x5.heap.size ≤ z1.heap.size := (unhide HBZ0).size
          clear HBY hbz BJ HBZ0
          have HBY := hide BYz
          clear BYz
          obtain ⟨jb, hjb⟩ : ∃ j, z1.heap.size = j := ⟨_, rfl⟩
          rw [hjb] at HBJ hjl ⊢
          have HJL := hide hjl
          clear hjb hjl
          refine hK.out _ _ ⟨by rw [(unhide HBY).cell 0]; rfl, by rw [(unhide HBY).cell 1]; rfl⟩ (fun hS => ?_)
          clear hK K
          refine wpAnyH_takeD 8 (some 2) (.pointer (some ⟨jb, 0, none⟩)) rfl rfl (by kernel_rfl) (by kernel_rfl) (by kernel_rfl) (fun _ _ _ h => h) (Or.inl ⟨by rfl, fun w hSw => by obtain ⟨q1, q2⟩ := hSw; go_simp⟩) hS ?_
          simp only [Act.put, List.setIfInBounds_toArray, List.set_cons_zero, List.set_cons_succ]
          refine wpAnyH_takeD 9 (some 3) (.bool false) rfl rfl (by kernel_rfl) (by kernel_rfl) (by kernel_rfl) (fun _ _ _ h => h) (Or.inl ⟨by rfl, fun w hSw => by obtain ⟨q1, q2⟩ := hSw; go_simp⟩) hS ?_
          simp only [Act.put, List.setIfInBounds_toArray, List.set_cons_zero, List.set_cons_succ]
          refine wpAnyH_takeD 10 (some 4) (.int .i64 0) rfl rfl (by kernel_rfl) (by kernel_rfl) (by kernel_rfl) (fun _ _ _ h => h) (Or.inl ⟨by rfl, fun w hSw => by obtain ⟨q1, q2⟩ := hSw; go_simp⟩) hS ?_
          simp only [Act.put, List.setIfInBounds_toArray, List.set_cons_zero, List.set_cons_succ]
          refine wpAnyH_done (by kernel_rfl) ?_ _
          clear hS
          have HPO := hide (show OpenPost base b v s x2 (.returned (.tuple #[.pointer (some ⟨jb, 0, none⟩), .bool false, .int .i64 0])) z2 from .inr ⟨unhide HE, n, H, true, hn, unhide HRR, .inr (.inl ⟨rfl, (unhide HM).symm, jb, rfl, by rw [unhide HNX]; exact JNew.make (unhide HP1) (unhide HBZ) (unhide HJL) (unhide HBJ)⟩)⟩)
          clear HBJ HBY HBZ
          go_wp2
          go_ret3
          exact unhide HPO
  · have hne : (readE s 1 != 0) = true := by simp [he]
    have HPO := hide (show OpenPost base b v s x1 (.returned (.tuple #[.pointer none, .bool false, .int .i64 (readE s 1)])) x1 from .inl ⟨he, rfl, unhide HP0⟩)
    generalize readE s 1 = E at *
    clear he
    go_wp2
    go_ret3
    exact unhide HPO
end Go.Proofs.YtffiaogbphgmgaaGreatDoor
