import Derived.Test.YtnnehadmnijhjaaGreatDoorMv10
namespace Go.Proofs.YtnnehadmnijhjaaGreatDoor
open Go.RowKit
theorem rnum (w : World) (b : Nat) (s : RSt) (h : Rds w b s) (hg : ETy w) (hN : s.ok 9223372036854775807) (bytes : Int) : Calls Tryz.prog 106 #[.pointer (some ⟨b, 0, none⟩), .int .i64 bytes] w fun ev w' => ev = .returned (.int .i64 (rdV s bytes)) ∧ Rds w' b (rdS s bytes) ∧ Only (fun k => k = b) w w' := numS w b s h hg hN bytes
def rs0 (t : ByteArray) : RSt := ⟨pbd t, 0, 0⟩
/-- What a sector says as a head: its number, its homes, is it one. -/
def RHP (t : ByteArray) (size : Int) (n : Int) (H : List Int) (ok : Bool) : Prop :=
  (¬ (prOk t ∧ pkd t = 2) ∧ n = 0 ∧ H = [] ∧ ok = false) ∨ ((prOk t ∧ pkd t = 2) ∧ n = pnm t ∧
    ((rdV (rs0 t) 1 = 1 ∧ H = (homesF size 16 (rdS (rs0 t) 1) []).2 ∧ ok = decide (doneE (homesF size 16 (rdS (rs0 t) 1) []).1.r (homesF size 16 (rdS (rs0 t) 1) []).1.e = 0 ∧ H.length = 16)) ∨
     (rdV (rs0 t) 1 ≠ 1 ∧ H = [] ∧ ok = decide (doneE (rdS (rs0 t) 1).r (rdS (rs0 t) 1).e = 0 ∧ rdV (rs0 t) 1 = 0))))
theorem prOk_fit (t : ByteArray) (h : prOk t) : 0 ≤ pnm t ∧ pnm t ≤ 4294967295 := by
  have := h.1
  unfold errM at this
  split at this
  · cases this
  · rename_i hq
    have hf : fitsP (pnm t) 4 := Classical.byContradiction (fun q => hq (.inr q))
    exact (fits4 _).1 hf
theorem rs0_ok (t : ByteArray) (h : prOk t) : (rs0 t).ok 9223372036854775807 := by
  have h1 := h.1
  unfold errM at h1
  split at h1
  · cases h1
  · split at h1
    · cases h1
    · exact ⟨Int.le_refl _, by show (0 : Int) + ((pbd t).size : Int) ≤ _; omega⟩
theorem nilRow (w : World) (base : Nat) : w.ownsRow base 3 1 (.slice none 0 0) ([] : List Int).length (([] : List Int).map (Value.int .i64)) := World.ownsRow_nil _ _ _ _
def RhPost (t : ByteArray) (size : Int) (w : World) (e : Ending) (w' : World) : Prop :=
  ∃ p c H n ok, e = .returned (.tuple #[.agg #[.int .u32 n, .slice p H.length c], .bool ok]) ∧ RHP t size n H ok ∧ w'.ownsRow w.heap.size 3 1 (.slice p H.length c) H.length (H.map (Value.int .i64)) ∧ Below w.heap.size w w'
set_option maxRecDepth 100000 in
set_option maxHeartbeats 2000000 in
theorem readHead_any (w : World) (hg : ETy w) (t : ByteArray) (ht : t.size ≤ 9223372036854775807) (size : Int) :
    Calls Tryz.prog 70 #[.string t, .int .i64 size] w (RhPost t size w) := by
  obtain ⟨x0, hx0⟩ : ∃ x, x = w.alloc (Obj.cells #[.int .u32 0, .slice none 0 0] 106) := ⟨_, rfl⟩
  have hs0 : x0.heap.size = w.heap.size + 1 := by rw [hx0]; simp
  have hb0 : Below w.heap.size w x0 := by rw [hx0]; exact (Below.refl _ w).alloc (Nat.le_refl _) _
  have B0 : Blk x0 w.heap.size #[.int .u32 0, .slice none 0 0] 106 := by rw [hx0]; exact Blk.new w _ _
  have hg0 : ETy x0 := hg.below hb0 hg.lt
  have HPP := hide (parse_any rep_ok t ht x0 hg0)
  have HX := hide (And.intro hs0 (And.intro hb0 (And.intro B0 hg0)))
  have HGL := hide hg.lt
  clear hs0 hb0 B0 hg0 hg
  go_enter Tryz.func70, Tryz.ntmps70
  go_wp2_with fail
  rw [← hx0]
  replace hx0 := hide hx0
  refine (unhide HPP).mono ?_
  rintro e x1 ⟨hcase, hb1⟩
  have hb01 : Below w.heap.size w x1 := (unhide HX).2.1.trans (hb1.mono (unhide HX).2.1.size)
  have hlw : w.heap.size < x0.heap.size := by have := (unhide HX).1; omega
  have B1 := (unhide HX).2.2.1.below hb1 hlw
  have HB1 := hide (And.intro hb01 (And.intro B1 ((unhide HX).2.2.2.below hb1 (unhide HX).2.2.2.lt)))
  clear hb1 hb01 B1 HPP
  rcases hcase with ⟨hok, rfl⟩ | ⟨hok, rfl⟩
  · have hfit := prOk_fit t hok
    have hrs := rs0_ok t hok
    by_cases hk2 : pkd t = 2
    · obtain ⟨n, hn⟩ : ∃ n, pnm t = n := ⟨_, rfl⟩
      rw [hk2, hn]
      rw [hn] at hfit
      have hcv : IntKind.u32.wrap n = n := by
        have : IntKind.u32.wrap n = n % 4294967296 := by simp [IntKind.wrap, IntKind.signed, IntKind.bits]
        rw [this]; omega
      obtain ⟨bd, hbd⟩ : ∃ bd, pbd t = bd := ⟨_, rfl⟩
      rw [hbd]
      have hrs' : rs0 t = ⟨bd, 0, 0⟩ := by rw [rs0, hbd]
      rw [hrs'] at hrs
      have HRHP := hide (show ∀ H ok, ((rdV ⟨bd, 0, 0⟩ 1 = 1 ∧ H = (homesF size 16 (rdS ⟨bd, 0, 0⟩ 1) []).2 ∧ ok = decide (doneE (homesF size 16 (rdS ⟨bd, 0, 0⟩ 1) []).1.r (homesF size 16 (rdS ⟨bd, 0, 0⟩ 1) []).1.e = 0 ∧ H.length = 16)) ∨
     (rdV ⟨bd, 0, 0⟩ 1 ≠ 1 ∧ H = [] ∧ ok = decide (doneE (rdS ⟨bd, 0, 0⟩ 1).r (rdS ⟨bd, 0, 0⟩ 1).e = 0 ∧ rdV ⟨bd, 0, 0⟩ 1 = 0))) → RHP t size n H ok from fun H ok h => by
        rw [← hrs'] at h
        exact .inr ⟨⟨hok, hk2⟩, hn.symm, h⟩)
      obtain ⟨x2, hx2⟩ : ∃ x, x = x1.alloc (Obj.cells #[.int .i64 2, .int .i64 n, .string bd] 87) := ⟨_, rfl⟩
      have hb2 : Below x1.heap.size x1 x2 := by rw [hx2]; exact (Below.refl _ x1).alloc (Nat.le_refl _) _
      have BP2 : Blk x2 x1.heap.size #[.int .i64 2, .int .i64 n, .string bd] 87 := by rw [hx2]; exact Blk.new x1 _ _
      have HB2 := hide (And.intro ((unhide HB1).1.trans (hb2.mono (unhide HB1).1.size)) (And.intro ((unhide HB1).2.1.below hb2 (unhide HB1).2.1.lt) (And.intro ((unhide HB1).2.2.below hb2 (unhide HB1).2.2.lt) BP2)))
      have HCH := hide (fun W => clearHead_any n W)
      have HNR := hide (fun W => newReader_any bd W)
      have HRS := hide hrs
      clear hk2 hn hbd hrs' hb2 BP2 hok hfit hrs
      go_wp2_with fail
      rw [← hx2]
      replace hx2 := hide hx2
      refine (unhide HCH _).mono ?_
      rintro e x3 ⟨rfl, hb3⟩
      obtain ⟨x4, hx4⟩ : ∃ x, x = x3.alloc (Obj.cells #[.int .u32 n, .slice none 0 0] 106) := ⟨_, rfl⟩
      have hb4 : Below x2.heap.size x2 x4 := by rw [hx4]; exact hb3.alloc hb3.size _
      have BH4 : Blk x4 x3.heap.size #[.int .u32 n, .slice none 0 0] 106 := by rw [hx4]; exact Blk.new x3 _ _
      have HB4 := hide (And.intro ((unhide HB2).1.trans (hb4.mono (unhide HB2).1.size)) (And.intro ((unhide HB2).2.1.below hb4 (unhide HB2).2.1.lt) (And.intro ((unhide HB2).2.2.1.below hb4 (unhide HB2).2.2.1.lt) (And.intro ((unhide HB2).2.2.2.below hb4 (unhide HB2).2.2.2.lt) BH4))))
      have hgh : w.heap.size < x3.heap.size := by have := (unhide HB2).2.1.lt; have := hb3.size; omega
      have cp2 : x4.cell? ⟨x1.heap.size, 2, none⟩ = some (.string bd) := (unhide HB4).2.2.2.1.cell 2
      have hlp : x1.heap.size < x3.heap.size := by have := (unhide HB2).2.2.2.lt; have := hb3.size; omega
      have hnp : x1.heap.size ≠ x3.heap.size := by omega
      have cp2' : x3.cell? ⟨x1.heap.size, 2, none⟩ = some (.string bd) := ((unhide HB2).2.2.2.below hb3 (unhide HB2).2.2.2.lt).cell 2
      clear hb3 hb4 BH4 HCH HB2
      go_wp2_with fail
      rw [← hx4]
      replace hx4 := hide hx4
      obtain ⟨gh, hgh2⟩ : ∃ g, x3.heap.size = g := ⟨_, rfl⟩
      rw [hgh2] at HB4 hgh ⊢
      clear hgh2 hlp cp2' hnp
      refine (unhide HNR _).mono ?_
      rintro e x5 ⟨rfl, hR5, hb5, hz5⟩
      have HR5 := hide (show Rds x5 x4.heap.size ⟨bd, 0, 0⟩ from hR5)
      have HB5 := hide (And.intro ((unhide HB4).1.trans (hb5.mono (unhide HB4).1.size)) (And.intro ((unhide HB4).2.1.below hb5 (unhide HB4).2.1.lt) (And.intro ((unhide HB4).2.2.1.below hb5 (unhide HB4).2.2.1.lt) ((unhide HB4).2.2.2.2.below hb5 (unhide HB4).2.2.2.2.lt))))
      have hrbl : gh < x4.heap.size := (unhide HB4).2.2.2.2.lt
      obtain ⟨rb, hrb⟩ : ∃ b, x4.heap.size = b := ⟨_, rfl⟩
      rw [hrb] at HR5 hrbl ⊢
      have HNC := hide (rnum x5 rb ⟨bd, 0, 0⟩ (unhide HR5) (unhide HB5).2.2.1 (unhide HRS) 1)
      have HRN := hide ((unhide HR5).ne (unhide HB5).2.2.1)
      clear hR5 hb5 hz5 hrb HNR HB4 HR5 cp2
      go_wp2_with fail
      refine (unhide HNC).mono ?_
      rintro e x6 ⟨rfl, hR6, hO6⟩
      have HR6 := hide (show Rds x6 rb (rdS ⟨bd, 0, 0⟩ 1) from hR6)
      have HO6 := hide hO6
      have hwrb : w.heap.size ≠ rb := by omega
      have hghrb : gh ≠ rb := by omega
      have hb6 : Below w.heap.size w x6 := (unhide HB5).1.trans (hO6.below (unhide HB5).1.size (fun k hk q => by have q : k = rb := q; omega))
      have B6 := (unhide HB5).2.1.only hO6 hwrb
      have BH6 := (unhide HB5).2.2.2.only hO6 hghrb
      have HB6 := hide (And.intro hb6 (And.intro B6 (And.intro ((unhide HB5).2.2.1.only hO6 (fun q => unhide HRN q.symm)) BH6)))
      have HK6 := hide (rdS_ok ⟨bd, 0, 0⟩ 1 _ (unhide HRS))
      obtain ⟨mk, hmk⟩ : ∃ m, rdV ⟨bd, 0, 0⟩ 1 = m := ⟨_, rfl⟩
      rw [hmk]
      rw [hmk] at HRHP
      clear hR6 hO6 hb6 B6 BH6 hmk HNC HB5 HO6
      obtain ⟨r6, hr6⟩ : ∃ r, rdS ⟨bd, 0, 0⟩ 1 = r := ⟨_, rfl⟩
      rw [hr6] at HR6 HRHP HK6
      clear hr6
      by_cases h1 : mk = 1
      · subst h1
        have HHO := hide (readHomes_any x6 rb r6 (unhide HR6) (unhide HB6).2.2.1 (unhide HK6) size)
        go_wp2_with fail
        refine (unhide HHO).mono ?_
        rintro e x7 ⟨v7, rfl, hrow7, hR7, hK7, hO7⟩
        have hb7 : Below w.heap.size w x7 := (unhide HB6).1.trans (hO7.below (unhide HB6).1.size (fun k hk q => by have q : k = rb := q; omega))
        have B7 := (unhide HB6).2.1.only hO7 hwrb
        have BH7 := (unhide HB6).2.2.2.only hO7 hghrb
        obtain ⟨R7, H7, hRH⟩ : ∃ R H, homesF size 16 r6 [] = (R, H) := ⟨_, _, rfl⟩
        rw [hRH] at hrow7 hR7 HRHP
        obtain ⟨p7, c7, rfl, _⟩ := row_form hrow7
        have hne7 : ∀ q, (Value.slice p7 H7.length c7).ownBlock = some q → x6.heap.size ≤ q := fun q hq => (hrow7.lt q hq).1
        have HROW := hide (owns_base hrow7 (unhide HB6).1.size)
        have HN7 := hide hne7
        have hl6 : w.heap.size < x6.heap.size ∧ gh < x6.heap.size := ⟨(unhide HB6).2.1.lt, (unhide HB6).2.2.2.lt⟩
        have HL6 := hide hl6
        have q1 : x7.cell? ⟨gh, 1, none⟩ = some (.slice none 0 0) := BH7.cell 1
        have f1 : x7.frozen? ⟨gh, 1, none⟩ = false := BH7.frozen 1
        have HB7 := hide (And.intro hb7 (And.intro B7 BH7))
        obtain ⟨x8, hx8⟩ : ∃ x, x = x7.setCell ⟨gh, 1, none⟩ (.slice p7 H7.length c7) := ⟨_, rfl⟩
        have HR8 := hide (show Rds x8 rb R7 from by rw [hx8]; exact Rds.only hR7 ((Only.refl (fun k => k = gh) x7).setCell _ _ (fun _ => rfl)) (fun q => hghrb q.symm))
        have HD8 := hide (rdone_any x8 rb R7.r R7.t R7.e (unhide HR8))
        clear hrow7 hR7 hK7 hO7 hb7 B7 BH7 hRH HHO hne7 hl6
        generalize hHl : H7.length = m7 at *
        have HHL := hide hHl
        clear hHl
        go_wp2_with fail
        rw [← hx8]
        refine (unhide HD8).mono ?_
        rintro e x9 ⟨rfl, hb9⟩
        have BH8 : Blk x8 gh #[.int .u32 n, .slice p7 m7 c7] 106 := by rw [hx8]; exact (unhide HB7).2.2.set 1 _
        have B8 : Blk x8 w.heap.size #[.int .u32 0, .slice none 0 0] 106 := by rw [hx8]; exact (unhide HB7).2.1.other _ _ (by show gh ≠ w.heap.size; omega)
        have BH9 := BH8.below hb9 BH8.lt
        have B9 := B8.below hb9 B8.lt
        have hb8 : Below w.heap.size w x8 := by rw [hx8]; exact (unhide HB7).1.setCell (by show w.heap.size ≤ gh; omega) _
        have hrow9 : x9.ownsRow w.heap.size 3 1 (.slice p7 m7 c7) m7 (H7.map (Value.int .i64)) := by
          have h8 : x8.ownsRow w.heap.size 3 1 (.slice p7 m7 c7) m7 (H7.map (Value.int .i64)) := by
            rw [hx8]
            exact owns_setO (unhide HROW) _ _ (fun q => by have h1 : x6.heap.size ≤ gh := unhide HN7 _ q; have := (unhide HL6).2; omega)
          exact owns_only h8 (Only.of_below (P := fun _ => False) hb9) (fun _ _ q => q)
        have c0 : x9.cell? ⟨gh, 0, none⟩ = some (.int .u32 n) := BH9.cell 0
        have c1 : x9.cell? ⟨gh, 1, none⟩ = some (.slice p7 m7 c7) := BH9.cell 1
        have d0 : x9.cell? ⟨w.heap.size, 0, none⟩ = some (.int .u32 0) := B9.cell 0
        have d1 : x9.cell? ⟨w.heap.size, 1, none⟩ = some (.slice none 0 0) := B9.cell 1
        have g0 := B9.frozen 0
        have g1 := B9.frozen 1
        have HF := hide (And.intro (hb8.trans (hb9.mono hb8.size)) (And.intro B9 hrow9))
        replace hx8 := hide hx8
        obtain ⟨D, hD⟩ : ∃ D, doneE R7.r R7.e = D := ⟨_, rfl⟩
        rw [hD] at HRHP ⊢
        clear hb9 BH8 B8 BH9 B9 hb8 hrow9 HD8 HR8 q1 f1 hD
        have hlast : ∀ ok, ok = decide (D = 0 ∧ m7 = 16) → RHP t size n H7 ok := fun ok hq => unhide HRHP H7 ok (.inl ⟨by first | rfl | trivial, rfl, by rw [unhide HHL]; exact hq⟩)
        have HLS := hide hlast
        have hne0 : gh ≠ w.heap.size := by omega
        clear hlast HRHP
        by_cases hD0 : D = 0
        · subst hD0
          by_cases hw : m7 = 16
          · subst hw
            go_wp2
            have B := ((unhide HF).2.1.set 0 (.int .u32 n)).set 1 (.slice p7 16 c7)
            have hld := load_blk 106 _ B Tryz.underlying106 rfl (by kernel_rfl)
            refine bodyPost_ret (v := .tuple #[.agg #[.int .u32 n, .slice p7 16 c7], .bool true]) (results_pair rfl _ _ _ ⟨w.heap.size, 0, none⟩ rfl _ hld _ rfl) rfl ?_
            have hPF : RhPost t size w (.returned (.tuple #[.agg #[.int .u32 n, .slice p7 16 c7], .bool true])) ((x9.setCell ⟨w.heap.size, 0, none⟩ (.int .u32 n)).setCell ⟨w.heap.size, 1, none⟩ (.slice p7 16 c7)) := by
              have hl := unhide HHL
              refine ⟨p7, c7, H7, n, true, by rw [hl], unhide HLS true (by simp), ?_, ((unhide HF).1.setCell (Nat.le_refl _) _).setCell (Nat.le_refl _) _⟩
              rw [hl]
              exact owns_setO (owns_setO (unhide HF).2.2 _ _ (fun q => by have h1 : x6.heap.size ≤ w.heap.size := unhide HN7 _ q; have := (unhide HL6).1; omega)) _ _ (fun q => by have h1 : x6.heap.size ≤ w.heap.size := unhide HN7 _ q; have := (unhide HL6).1; omega)
            exact hPF
          · have hwb : ((m7 : Int) == 16) = false := by simp; omega
            go_wp2
            have B := ((unhide HF).2.1.set 0 (.int .u32 n)).set 1 (.slice p7 m7 c7)
            have hld := load_blk 106 _ B Tryz.underlying106 rfl (by kernel_rfl)
            refine bodyPost_ret (v := .tuple #[.agg #[.int .u32 n, .slice p7 m7 c7], .bool false]) (results_pair rfl _ _ _ ⟨w.heap.size, 0, none⟩ rfl _ hld _ rfl) rfl ?_
            have hPF : RhPost t size w (.returned (.tuple #[.agg #[.int .u32 n, .slice p7 m7 c7], .bool false])) ((x9.setCell ⟨w.heap.size, 0, none⟩ (.int .u32 n)).setCell ⟨w.heap.size, 1, none⟩ (.slice p7 m7 c7)) := by
              have hl := unhide HHL
              refine ⟨p7, c7, H7, n, false, by rw [hl], unhide HLS false (by simp [hw]), ?_, ((unhide HF).1.setCell (Nat.le_refl _) _).setCell (Nat.le_refl _) _⟩
              rw [hl]
              exact owns_setO (owns_setO (unhide HF).2.2 _ _ (fun q => by have h1 : x6.heap.size ≤ w.heap.size := unhide HN7 _ q; have := (unhide HL6).1; omega)) _ _ (fun q => by have h1 : x6.heap.size ≤ w.heap.size := unhide HN7 _ q; have := (unhide HL6).1; omega)
            exact hPF
        · have hDb : (D == 0) = false := by simpa using hD0
          by_cases hw : m7 = 16
          · subst hw
            go_wp2
            have B := ((unhide HF).2.1.set 0 (.int .u32 n)).set 1 (.slice p7 16 c7)
            have hld := load_blk 106 _ B Tryz.underlying106 rfl (by kernel_rfl)
            refine bodyPost_ret (v := .tuple #[.agg #[.int .u32 n, .slice p7 16 c7], .bool false]) (results_pair rfl _ _ _ ⟨w.heap.size, 0, none⟩ rfl _ hld _ rfl) rfl ?_
            have hPF : RhPost t size w (.returned (.tuple #[.agg #[.int .u32 n, .slice p7 16 c7], .bool false])) ((x9.setCell ⟨w.heap.size, 0, none⟩ (.int .u32 n)).setCell ⟨w.heap.size, 1, none⟩ (.slice p7 16 c7)) := by
              have hl := unhide HHL
              refine ⟨p7, c7, H7, n, false, by rw [hl], unhide HLS false (by simp [hD0]), ?_, ((unhide HF).1.setCell (Nat.le_refl _) _).setCell (Nat.le_refl _) _⟩
              rw [hl]
              exact owns_setO (owns_setO (unhide HF).2.2 _ _ (fun q => by have h1 : x6.heap.size ≤ w.heap.size := unhide HN7 _ q; have := (unhide HL6).1; omega)) _ _ (fun q => by have h1 : x6.heap.size ≤ w.heap.size := unhide HN7 _ q; have := (unhide HL6).1; omega)
            exact hPF
          · have hwb : ((m7 : Int) == 16) = false := by simp; omega
            go_wp2
            have B := ((unhide HF).2.1.set 0 (.int .u32 n)).set 1 (.slice p7 m7 c7)
            have hld := load_blk 106 _ B Tryz.underlying106 rfl (by kernel_rfl)
            refine bodyPost_ret (v := .tuple #[.agg #[.int .u32 n, .slice p7 m7 c7], .bool false]) (results_pair rfl _ _ _ ⟨w.heap.size, 0, none⟩ rfl _ hld _ rfl) rfl ?_
            have hPF : RhPost t size w (.returned (.tuple #[.agg #[.int .u32 n, .slice p7 m7 c7], .bool false])) ((x9.setCell ⟨w.heap.size, 0, none⟩ (.int .u32 n)).setCell ⟨w.heap.size, 1, none⟩ (.slice p7 m7 c7)) := by
              have hl := unhide HHL
              refine ⟨p7, c7, H7, n, false, by rw [hl], unhide HLS false (by simp [hD0]), ?_, ((unhide HF).1.setCell (Nat.le_refl _) _).setCell (Nat.le_refl _) _⟩
              rw [hl]
              exact owns_setO (owns_setO (unhide HF).2.2 _ _ (fun q => by have h1 : x6.heap.size ≤ w.heap.size := unhide HN7 _ q; have := (unhide HL6).1; omega)) _ _ (fun q => by have h1 : x6.heap.size ≤ w.heap.size := unhide HN7 _ q; have := (unhide HL6).1; omega)
            exact hPF
      · have h1b : (mk == 1) = false := by simpa using h1
        have HD8 := hide (rdone_any x6 rb r6.r r6.t r6.e (unhide HR6))
        go_wp2_with fail
        refine (unhide HD8).mono ?_
        rintro e x9 ⟨rfl, hb9⟩
        have BH9 := (unhide HB6).2.2.2.below hb9 (unhide HB6).2.2.2.lt
        have B9 := (unhide HB6).2.1.below hb9 (unhide HB6).2.1.lt
        have c0 : x9.cell? ⟨gh, 0, none⟩ = some (.int .u32 n) := BH9.cell 0
        have c1 : x9.cell? ⟨gh, 1, none⟩ = some (.slice none 0 0) := BH9.cell 1
        have d0 : x9.cell? ⟨w.heap.size, 0, none⟩ = some (.int .u32 0) := B9.cell 0
        have d1 : x9.cell? ⟨w.heap.size, 1, none⟩ = some (.slice none 0 0) := B9.cell 1
        have g0 := B9.frozen 0
        have g1 := B9.frozen 1
        have HF := hide (And.intro ((unhide HB6).1.trans (hb9.mono (unhide HB6).1.size)) (And.intro B9 trivial))
        obtain ⟨D, hD⟩ : ∃ D, doneE r6.r r6.e = D := ⟨_, rfl⟩
        rw [hD] at HRHP ⊢
        clear hb9 BH9 B9 HD8 hD
        have hlast : ∀ ok, ok = decide (D = 0 ∧ mk = 0) → RHP t size n [] ok := fun ok hq => unhide HRHP [] ok (.inr ⟨h1, rfl, hq⟩)
        have HLS := hide hlast
        have hne0 : gh ≠ w.heap.size := by omega
        clear hlast HRHP
        by_cases hD0 : D = 0
        · subst hD0
          by_cases hw : mk = 0
          · subst hw
            go_wp2
            have B := ((unhide HF).2.1.set 0 (.int .u32 n)).set 1 (.slice none 0 0)
            have hld := load_blk 106 _ B Tryz.underlying106 rfl (by kernel_rfl)
            refine bodyPost_ret (v := .tuple #[.agg #[.int .u32 n, .slice none 0 0], .bool true]) (results_pair rfl _ _ _ ⟨w.heap.size, 0, none⟩ rfl _ hld _ rfl) rfl ?_
            have hPF : RhPost t size w (.returned (.tuple #[.agg #[.int .u32 n, .slice none 0 0], .bool true])) ((x9.setCell ⟨w.heap.size, 0, none⟩ (.int .u32 n)).setCell ⟨w.heap.size, 1, none⟩ (.slice none 0 0)) := ⟨none, 0, [], n, true, rfl, unhide HLS true (by simp), nilRow _ _, (by refine ((unhide HF).1.setCell ?_ _).setCell ?_ _ <;> exact Nat.le_refl _)⟩
            exact hPF
          · have hwb : (mk == 0) = false := by simpa using hw
            go_wp2
            have B := ((unhide HF).2.1.set 0 (.int .u32 n)).set 1 (.slice none 0 0)
            have hld := load_blk 106 _ B Tryz.underlying106 rfl (by kernel_rfl)
            refine bodyPost_ret (v := .tuple #[.agg #[.int .u32 n, .slice none 0 0], .bool false]) (results_pair rfl _ _ _ ⟨w.heap.size, 0, none⟩ rfl _ hld _ rfl) rfl ?_
            have hPF : RhPost t size w (.returned (.tuple #[.agg #[.int .u32 n, .slice none 0 0], .bool false])) ((x9.setCell ⟨w.heap.size, 0, none⟩ (.int .u32 n)).setCell ⟨w.heap.size, 1, none⟩ (.slice none 0 0)) := ⟨none, 0, [], n, false, rfl, unhide HLS false (by simp [hw]), nilRow _ _, (by refine ((unhide HF).1.setCell ?_ _).setCell ?_ _ <;> exact Nat.le_refl _)⟩
            exact hPF
        · have hDb : (D == 0) = false := by simpa using hD0
          by_cases hw : mk = 0
          · subst hw
            go_wp2
            have B := ((unhide HF).2.1.set 0 (.int .u32 n)).set 1 (.slice none 0 0)
            have hld := load_blk 106 _ B Tryz.underlying106 rfl (by kernel_rfl)
            refine bodyPost_ret (v := .tuple #[.agg #[.int .u32 n, .slice none 0 0], .bool false]) (results_pair rfl _ _ _ ⟨w.heap.size, 0, none⟩ rfl _ hld _ rfl) rfl ?_
            have hPF : RhPost t size w (.returned (.tuple #[.agg #[.int .u32 n, .slice none 0 0], .bool false])) ((x9.setCell ⟨w.heap.size, 0, none⟩ (.int .u32 n)).setCell ⟨w.heap.size, 1, none⟩ (.slice none 0 0)) := ⟨none, 0, [], n, false, rfl, unhide HLS false (by simp [hD0]), nilRow _ _, (by refine ((unhide HF).1.setCell ?_ _).setCell ?_ _ <;> exact Nat.le_refl _)⟩
            exact hPF
          · have hwb : (mk == 0) = false := by simpa using hw
            go_wp2
            have B := ((unhide HF).2.1.set 0 (.int .u32 n)).set 1 (.slice none 0 0)
            have hld := load_blk 106 _ B Tryz.underlying106 rfl (by kernel_rfl)
            refine bodyPost_ret (v := .tuple #[.agg #[.int .u32 n, .slice none 0 0], .bool false]) (results_pair rfl _ _ _ ⟨w.heap.size, 0, none⟩ rfl _ hld _ rfl) rfl ?_
            have hPF : RhPost t size w (.returned (.tuple #[.agg #[.int .u32 n, .slice none 0 0], .bool false])) ((x9.setCell ⟨w.heap.size, 0, none⟩ (.int .u32 n)).setCell ⟨w.heap.size, 1, none⟩ (.slice none 0 0)) := ⟨none, 0, [], n, false, rfl, unhide HLS false (by simp [hD0]), nilRow _ _, (by refine ((unhide HF).1.setCell ?_ _).setCell ?_ _ <;> exact Nat.le_refl _)⟩
            exact hPF
    · have hk2b : (pkd t != 2) = true := by simp [hk2]
      have HRH := hide (show RHP t size 0 [] false from .inl ⟨fun q => hk2 q.2, rfl, rfl, rfl⟩)
      obtain ⟨kd, hkd⟩ : ∃ k, pkd t = k := ⟨_, rfl⟩
      rw [hkd] at hk2b ⊢
      clear hkd hk2 hok hfit hrs
      have B1 := (unhide HB1).2.1
      have d0 : x1.cell? ⟨w.heap.size, 0, none⟩ = some (.int .u32 0) := B1.cell 0
      have d1 : x1.cell? ⟨w.heap.size, 1, none⟩ = some (.slice none 0 0) := B1.cell 1
      have g0 := B1.frozen 0
      have g1 := B1.frozen 1
      have hlt1 : w.heap.size < x1.heap.size := B1.lt
      have hne1 : w.heap.size ≠ x1.heap.size := by omega
      clear B1
      go_wp2
      have B := (((unhide HB1).2.1.set 0 (.int .u32 0)).set 1 (.slice none 0 0)).alloc (Obj.cells #[.int .i64 kd, .int .i64 (pnm t), .string (pbd t)] 87)
      have hld := load_blk 106 _ B Tryz.underlying106 rfl (by kernel_rfl)
      refine bodyPost_ret (v := .tuple #[.agg #[.int .u32 0, .slice none 0 0], .bool false]) (results_pair rfl _ _ _ ⟨w.heap.size, 0, none⟩ rfl _ hld _ rfl) rfl ⟨none, 0, [], 0, false, rfl, unhide HRH, nilRow _ _, ?_⟩
      exact (((unhide HB1).1.setCell (Nat.le_refl _) _).setCell (Nat.le_refl _) _).alloc (by have := (unhide HB1).1.size; simpa using this) _
  · have HRH := hide (show RHP t size 0 [] false from .inl ⟨fun q => hok q.1, rfl, rfl, rfl⟩)
    clear hok
    have B1 := (unhide HB1).2.1
    have d0 : x1.cell? ⟨w.heap.size, 0, none⟩ = some (.int .u32 0) := B1.cell 0
    have d1 : x1.cell? ⟨w.heap.size, 1, none⟩ = some (.slice none 0 0) := B1.cell 1
    have g0 := B1.frozen 0
    have g1 := B1.frozen 1
    have hlt1 : w.heap.size < x1.heap.size := B1.lt
    have hne1 : w.heap.size ≠ x1.heap.size := by omega
    clear B1
    go_wp2
    have B := (((unhide HB1).2.1.set 0 (.int .u32 0)).set 1 (.slice none 0 0)).alloc (Obj.cells #[.int .i64 0, .int .i64 0, .string ⟨#[]⟩] 87)
    have hld := load_blk 106 _ B Tryz.underlying106 rfl (by kernel_rfl)
    refine bodyPost_ret (v := .tuple #[.agg #[.int .u32 0, .slice none 0 0], .bool false]) (results_pair rfl _ _ _ ⟨w.heap.size, 0, none⟩ rfl _ hld _ rfl) rfl ⟨none, 0, [], 0, false, rfl, unhide HRH, nilRow _ _, ?_⟩
    exact (((unhide HB1).1.setCell (Nat.le_refl _) _).setCell (Nat.le_refl _) _).alloc (by have := (unhide HB1).1.size; simpa using this) _
end Go.Proofs.YtnnehadmnijhjaaGreatDoor

namespace Go.Proofs.YtnnehadmnijhjaaGreatDoor
open Go.RowKit
set_option maxRecDepth 100000 in
set_option maxHeartbeats 400000 in
theorem format_any (w : World) (base b : Nat) (v : DV) (s : DSt) (h : Dk w base b v s) (hb : base ≤ w.heap.size) (hS : Sane s) (hp : s.pend.length ≤ 1000000) (ha : s.acts.length ≤ 100000000) :
    Calls Tryz.prog 29 #[.pointer (some ⟨b, 0, none⟩)] w fun e w' => e = .returned (.int .i64 (layR s [(1, headB 0 [])]).1) ∧ DPost base b v (layR s [(1, headB 0 [])]).2 w w' := by
  have HCH := hide (clearHead_any 0 w)
  have HWC := hide (fun (W : World) => hwrite_clear 0 (by decide) none 0 W)
  have HD := hide h
  have HS := hide hS
  have hlt : ∀ k, Fd b v k → k < w.heap.size := fun k hk => (h.fd k hk).2
  have HLT := hide hlt
  obtain ⟨hc, hhc⟩ : ∃ x, headB 0 [] = x := ⟨_, rfl⟩
  rw [hhc] at HWC ⊢
  clear h hS hlt hhc
  go_enter Tryz.func29, Tryz.ntmps29
  go_wp2_with fail
  refine (unhide HCH).mono ?_
  rintro e x1 ⟨rfl, hb1⟩
  have HB1 := hide hb1
  clear hb1 HCH
  go_wp2_with fail
  refine (unhide HWC _).mono ?_
  rintro e x2 ⟨rfl, hb2⟩
  have HB2 := hide ((unhide HB1).trans (hb2.mono (unhide HB1).size))
  clear hb2 HWC HB1
  obtain ⟨x3, hx3⟩ : ∃ x, x = x2.alloc (Obj.cells #[.int .i64 1, .string hc] 96) := ⟨_, rfl⟩
  have hB3 : Blk x3 x2.heap.size #[.int .i64 1, .string hc] 96 := by rw [hx3]; exact Blk.new x2 _ _
  have hb3 : Below w.heap.size w x3 := by rw [hx3]; exact (unhide HB2).alloc (unhide HB2).size _
  have HB3 := hide hb3
  have HLY := hide (jlay_any x3 base b v s ((unhide HD).below hb3) (Nat.le_trans hb hb3.size) (unhide HS) (some ⟨x2.heap.size, 0, none⟩) 1 [(1, hc)] 1 rfl (wls_blk (l := [(1, hc)]) hB3) (fun g o e q => by cases e; have := unhide HLT _ q; have := (unhide HB2).size; omega) (by show _ + 1 ≤ _; omega) (by show _ + 1 ≤ _; omega))
  clear hB3 hb3
  go_wp2_with fail
  rw [← hx3]
  replace hx3 := hide hx3
  refine (unhide HLY).mono ?_
  rintro e x4 ⟨rfl, hP4⟩
  have HP4 := hide (DPost.belowL (unhide HB3) hP4)
  clear hP4 HLY
  go_wp2
  go_ret
  exact ⟨rfl, unhide HP4⟩
/-- What is done once more: each record, where it belongs. -/
def redoL (s : DSt) (H : List Int) : List Wr1 := (List.range H.length).map fun i => (H.getD i 0, readT s ((2 + i : Nat) : Int))
theorem redoL_len (s : DSt) (H : List Int) : (redoL s H).length = H.length := by simp [redoL]
theorem redoL_at (s : DSt) (H : List Int) (k : Nat) (hk : k < H.length) : (redoL s H).getD k wr0 = (H.getD k 0, readT s ((2 + k : Nat) : Int)) := by simp [redoL, List.getD_eq_getElem?_getD, hk]
def redoR (s : DSt) (n : Nat) (H : List Int) : Int × DSt := if (layR s (redoL s H)).1 = 0 then layR (layR s (redoL s H)).2 [(1, headB n [])] else layR s (redoL s H)
set_option maxRecDepth 100000 in
set_option maxHeartbeats 2000000 in
theorem redo_any (w : World) (base b : Nat) (v : DV) (s : DSt) (h : Dk w base b v s) (hb : base ≤ w.heap.size) (hS : Sane s) (hp : s.pend.length ≤ 1000000) (ha : s.acts.length ≤ 100000000) (n : Nat) (hn : n < 4294967296) (p : Option Addr) (c : Nat) (H : List Int) (m : Nat) (hm : m = H.length) (hH : Inl w p H) (h16 : m ≤ 16) :
    Calls Tryz.prog 73 #[.pointer (some ⟨b, 0, none⟩), .agg #[.int .u32 (n : Int), .slice p m c]] w fun e w' => e = .returned (.int .i64 (redoR s n H).1) ∧ DPost base b v (redoR s n H).2 w w' := by
  have hlt : ∀ k, Fd b v k → k < w.heap.size := fun k hk => (h.fd k hk).2
  obtain ⟨x0, hx0⟩ : ∃ x, x = w.alloc (Obj.cells #[.int .u32 (n : Int), .slice p m c] 106) := ⟨_, rfl⟩
  have hs0 : x0.heap.size = w.heap.size + 1 := by rw [hx0]; simp
  have hb0 : Below w.heap.size w x0 := by rw [hx0]; exact (Below.refl _ w).alloc (Nat.le_refl _) _
  have B0 : Blk x0 w.heap.size #[.int .u32 (n : Int), .slice p m c] 106 := by rw [hx0]; exact Blk.new w _ _
  have hmk : ∀ W : World, (Instr.makeSlice 37 (.int .i64 (m : Int)) (.int .i64 (m : Int))).run Tryz.prog W = .ok (.slice (some ⟨W.heap.size, 0, none⟩) m m) (W.alloc (.cells (wrv (List.replicate m wr0)).toArray 96)) := fun W => run_make_w m (by omega) W
  have hrl : (redoL s H).length = m := by rw [redoL_len, hm]
  have X0 := hide (show ReI x0 (redoL s H) 0 (x0.alloc (.cells (wrv (List.replicate m wr0)).toArray 96)) from ⟨by simpa [prtW, hrl] using Blk.new x0 96 (wrv (List.replicate m wr0)).toArray, (Below.refl _ _).alloc (Nat.le_refl _) _⟩)
  obtain ⟨zc, hzc⟩ : ∃ z, (wrv (List.replicate m wr0)).toArray = z := ⟨_, rfl⟩
  rw [hzc] at X0
  have hmk0 := hmk x0
  have hmkw := hmk (w.alloc (Obj.cells #[.int .u32 (n : Int), .slice p m c] 106))
  rw [hzc] at hmkw
  have HD := hide h
  have HS := hide hS
  have HLT := hide hlt
  have HH := hide hH
  have HM := hide hm
  have HRL := hide hrl
  have HX := hide (And.intro hs0 (And.intro hb0 B0))
  have HRE := hide (fun (W : World) (hW : Below w.heap.size w W) (i : Int) => read_any W base b v s (h.below hW) hS.same i)
  clear h hS hlt hH hm hrl hs0 hb0 B0 hmk hmk0 hzc
  go_enter Tryz.func73, Tryz.ntmps73
  go_wp2
  have HIW := hide (show ∀ W, Below w.heap.size w W → ∀ j, j < m → ∃ lb lo, p = some ⟨lb, lo, none⟩ ∧ W.cell? ⟨lb, lo + j, none⟩ = some (.int .i64 (H.getD j 0)) from fun W hW j hj => by
    rcases unhide HH with q | ⟨lb, lo, e1, e2, e3⟩
    · rw [unhide HM, q] at hj; cases hj
    · exact ⟨lb, lo, e1, (hW.cell (p := ⟨lb, lo + j, none⟩) e2).trans (e3 j (by rw [← unhide HM]; exact hj))⟩)
  have hz0 := (unhide HX).1
  rw [← hx0]
  rw [← hz0]
  replace hx0 := hide hx0
  have HZ0 := hide hz0
  clear hz0 hmkw
  go_loopw [18] (fun i wr => ∃ k : Nat, k ≤ m ∧ i = .int .i64 (k : Int) ∧ ReI x0 (redoL s H) k wr) (fun i _ => m - (intOf i).toNat)
  case atStart => exact ⟨0, by omega, rfl, unhide X0⟩
  case round =>
    obtain ⟨k, hk, rfl, hI⟩ := hrel
    obtain ⟨wo, rfl⟩ : ∃ wo, wo = wr := ⟨_, rfl⟩
    have XI := hide hI
    have hbw : Below w.heap.size w wo := (unhide HX).2.1.trans (hI.2.mono (unhide HX).2.1.size)
    have HBW := hide hbw
    clear hI X0
    by_cases hkl : k < m
    · obtain ⟨lb, lo, rfl, ch⟩ := unhide HIW wo hbw k hkl
      have hse := redoL_at s H k (by rw [← unhide HM]; exact hkl)
      obtain ⟨z, hz⟩ : ∃ z, H.getD k 0 = z := ⟨_, rfl⟩
      rw [hz] at ch hse
      have HRA := hide (recordAt_any k (by omega) wo)
      have HRD := hide (unhide HRE wo hbw ((2 + k : Nat) : Int))
      obtain ⟨t, ht⟩ : ∃ t, readT s ((2 + k : Nat) : Int) = t := ⟨_, rfl⟩
      rw [ht] at HRD hse
      obtain ⟨er, her⟩ : ∃ e, readE s ((2 + k : Nat) : Int) = e := ⟨_, rfl⟩
      rw [her] at HRD
      obtain ⟨ri, hri⟩ : ∃ r, ((2 + k : Nat) : Int) = r := ⟨_, rfl⟩
      rw [hri] at HRA HRD
      have hol : k < (prtW (redoL s H) k).length := by rw [prtW_len _ _ (by rw [unhide HRL]; exact hk), unhide HRL]; exact hkl
      obtain ⟨w0, w1⟩ := wrv_at _ k hol
      have d0 : wo.cell? ⟨x0.heap.size, k * 2, none⟩ = some (.int .i64 ((prtW (redoL s H) k).getD k wr0).1) := by rw [(unhide XI).1.cell]; simpa using w0
      have d1 : wo.cell? ⟨x0.heap.size, k * 2 + 1, none⟩ = some (.string ((prtW (redoL s H) k).getD k wr0).2) := by rw [(unhide XI).1.cell]; simpa using w1
      have f0 := (unhide XI).1.frozen (k * 2)
      have f1 := (unhide XI).1.frozen (k * 2 + 1)
      have XR := hide ((unhide XI).step (by rw [unhide HRL]; exact hkl) (Below.refl _ wo))
      rw [hse] at XR
      generalize (prtW (redoL s H) k).getD k wr0 = old at *
      obtain ⟨oz, ot⟩ := old
      have i0 : 0 ≤ (k : Int) := by omega
      have i1 : (k : Int) < (m : Int) := by omega
      clear hse hz ht her hri w0 w1 hol hbw XI
      go_wp2_with fail
      refine (unhide HRA).mono ?_
      rintro e y1 ⟨rfl, rfl⟩
      go_wp2_with fail
      refine (unhide HRD).mono ?_
      rintro e y2 ⟨rfl, rfl⟩
      go_wp2
      go_roundw
      case rel => exact ⟨k + 1, by omega, by go_num, unhide XR⟩
      case measure => simp [intOf]; omega
    · have hk' : k = m := by omega
      subst hk'
      have hBR : Blk wo x0.heap.size (wrv (redoL s H)).toArray 96 := by
        have := (unhide XI).1
        rw [prtW, List.take_of_length_le (by rw [unhide HRL]; exact Nat.le_refl _), unhide HRL] at this
        simpa using this
      have HBR := hide hBR
      have hff : ∀ g o, (some ⟨x0.heap.size, 0, none⟩ : Option Addr) = some ⟨g, o, none⟩ → ¬ Fd b v g := fun g o e q => by cases e; have := unhide HLT _ q; have := unhide HZ0; omega
      have HLY := hide (jlay_any wo base b v s ((unhide HD).below hbw) (Nat.le_trans hb hbw.size) (unhide HS) (some ⟨x0.heap.size, 0, none⟩) k (redoL s H) k (unhide HRL).symm (wls_blk hBR) hff (by rw [unhide HRL]; omega) (by rw [unhide HRL]; omega))
      have B0w := (unhide HX).2.2.below (unhide XI).2 (by have := unhide HZ0; omega)
      have HB0 := hide B0w
      clear hBR hff hbw hkl B0w
      go_wp2_with fail
      refine (unhide HLY).mono ?_
      rintro e y1 ⟨rfl, hP1⟩
      have HP1 := hide (DPost.belowL (unhide HBW) hP1)
      have hO1 := hP1.onlyW
      have c0 : y1.cell? ⟨w.heap.size, 0, none⟩ = some (.int .u32 (n : Int)) := by rw [((unhide HB0).only hO1 (fun q => by have := unhide HLT _ q; omega)).cell 0]; rfl
      clear hP1 hO1 HLY
      by_cases he : (layR s (redoL s H)).1 = 0
      · have HRR := hide (show redoR s n H = layR (layR s (redoL s H)).2 [(1, headB n [])] from by rw [redoR, if_pos he])
        have HSA := hide (layR_sane (redoL s H) s (unhide HS))
        have hpe := layR_pend (redoL s H) s
        have hac := layR_acts (redoL s H) s
        rw [unhide HRL] at hpe hac
        rw [he]
        generalize (layR s (redoL s H)).2 = S1 at *
        have HCH := hide (fun (W : World) => clearHead_any (n : Int) W)
        have HWC := hide (fun (W : World) => hwrite_clear n hn none 0 W)
        obtain ⟨hc, hhc⟩ : ∃ x, headB n [] = x := ⟨_, rfl⟩
        rw [hhc] at HWC HRR
        clear hhc he
        go_wp2_with fail
        refine (unhide HCH _).mono ?_
        rintro e y2 ⟨rfl, hb2⟩
        have HB2 := hide hb2
        clear hb2 HCH c0
        go_wp2_with fail
        refine (unhide HWC _).mono ?_
        rintro e y3 ⟨rfl, hb3⟩
        have HB3 := hide ((unhide HB2).trans (hb3.mono (unhide HB2).size))
        clear hb3 HWC HB2
        obtain ⟨y4, hy4⟩ : ∃ x, x = y3.alloc (Obj.cells #[.int .i64 1, .string hc] 96) := ⟨_, rfl⟩
        have hB4 : Blk y4 y3.heap.size #[.int .i64 1, .string hc] 96 := by rw [hy4]; exact Blk.new y3 _ _
        have hb4 : Below y1.heap.size y1 y4 := by rw [hy4]; exact (unhide HB3).alloc (unhide HB3).size _
        have HP4 := hide ((unhide HP1).belowR hb4)
        obtain ⟨v4, j1, j2, k3⟩ := unhide HP1
        have k1 := j1.below hb4
        have k2 : Only (Fd b v) w y4 := (unhide HP4).onlyW
        have hf4 : ¬ Fd b v4 y3.heap.size := fun q => by have := (j1.fd _ q).2; have := (unhide HB3).size; omega
        have HLY := hide (jlay_any y4 base b v4 S1 k1 (Nat.le_trans hb k2.size) (unhide HSA) (some ⟨y3.heap.size, 0, none⟩) 1 [(1, hc)] 1 rfl (wls_blk (l := [(1, hc)]) hB4) (fun g o e q => by cases e; exact hf4 q) (by show _ + 1 ≤ _; omega) (by show _ + 1 ≤ _; omega))
        have HK := hide (And.intro k2 k3)
        clear hB4 hb4 k1 k2 k3 hf4 j1 j2
        go_wp2_with fail
        rw [← hy4]
        replace hy4 := hide hy4
        refine (unhide HLY).mono ?_
        rintro e y5 ⟨rfl, hP5⟩
        have HP5 := hide (DPost.trans (unhide HK).1 (unhide HK).2 hP5)
        clear hP5 HLY HK
        go_wp2
        go_ret
        rw [unhide HRR]
        exact ⟨rfl, unhide HP5⟩
      · have HRR := hide (show redoR s n H = layR s (redoL s H) from by rw [redoR, if_neg he])
        have hne : ((layR s (redoL s H)).1 != 0) = true := by simp [he]
        generalize hq1 : (layR s (redoL s H)).1 = E at *
        have HQ1 := hide hq1
        clear he hq1
        go_wp2
        go_ret
        rw [unhide HRR, unhide HQ1]
        exact ⟨rfl, unhide HP1⟩
end Go.Proofs.YtnnehadmnijhjaaGreatDoor
