import Derived.Test.YtffiaogbphgmgaaGreatDoorMz11
import Derived.Test.YtffiaogbphgmgaaGreatDoorMz10
namespace Go.Proofs.YtffiaogbphgmgaaGreatDoor
open Go.RowKit
theorem rnum (w : World) (b : Nat) (s : RSt) (h : Rds w b s) (hg : ETy w) (hN : s.ok 9223372036854775807) (bytes : Int) : Calls Tryz.prog 104 #[.pointer (some ⟨b, 0, none⟩), .int .i64 bytes] w fun ev w' => ev = .returned (.int .i64 (rdV s bytes)) ∧ Rds w' b (rdS s bytes) ∧ Only (fun k => k = b) w w' := numS w b s h hg hN bytes
def rs0 (t : ByteArray) : RSt := ⟨pbd t, 0, 0⟩
/-- What a sector says as a head: its number, its homes, is it one. -/
def RHP (t : ByteArray) (size : Int) (n : Int) (H : List Int) (ok : Bool) : Prop :=
  (¬ (prOk t ∧ pkd t = 2) ∧ n = 0 ∧ H = [] ∧ ok = false) ∨ ((prOk t ∧ pkd t = 2) ∧ n = pnm t ∧
    ((rdV (rs0 t) 1 = 1 ∧ H = (homesF size 16 (rdS (rs0 t) 1) []).2 ∧ ok = decide (doneE (homesF size 16 (rdS (rs0 t) 1) []).1.r (homesF size 16 (rdS (rs0 t) 1) []).1.e = 0 ∧ H.length = 16)) ∨
     (rdV (rs0 t) 1 ≠ 1 ∧ H = [] ∧ ok = decide (doneE (rdS (rs0 t) 1).r (rdS (rs0 t) 1).e = 0 ∧ rdV (rs0 t) 1 = 0))))
theorem prOk_fit (t : ByteArray) (h : prOk t) : 0 ≤ pnm t ∧ pnm t ≤ 4294967295 := by
  have := h.1
  unfold errM at this
  split at this
  · cases this
  · rename_i hq
    have hf : fitsP (pnm t) 4 := Classical.byContradiction (fun q => hq (.inr q))
    exact (fits4 _).1 hf
theorem rs0_ok (t : ByteArray) (h : prOk t) : (rs0 t).ok 9223372036854775807 := by
  have h1 := h.1
  unfold errM at h1
  split at h1
  · cases h1
  · split at h1
    · cases h1
    · exact ⟨Int.le_refl _, by show (0 : Int) + ((pbd t).size : Int) ≤ _; omega⟩
theorem nilRow (w : World) (base : Nat) : w.ownsRow base 3 1 (.slice none 0 0) ([] : List Int).length (([] : List Int).map (Value.int .i64)) := World.ownsRow_nil _ _ _ _
def RhPost (t : ByteArray) (size : Int) (w : World) (e : Ending) (w' : World) : Prop :=
  ∃ p c H n ok, e = .returned (.tuple #[.agg #[.int .u32 n, .slice p H.length c], .bool ok]) ∧ RHP t size n H ok ∧ w'.ownsRow w.heap.size 3 1 (.slice p H.length c) H.length (H.map (Value.int .i64)) ∧ Below w.heap.size w w'
set_option maxRecDepth 100000 in
set_option maxHeartbeats 2000000 in
theorem readHead_any (w : World) (hg : ETy w) (t : ByteArray) (ht : t.size ≤ 9223372036854775807) (size : Int) :
    Calls Tryz.prog 71 #[.string t, .int .i64 size] w (RhPost t size w) := by
  obtain ⟨x0, hx0⟩ : ∃ x, x = w.alloc (Obj.cells #[.int .u32 0, .slice none 0 0] 95) := ⟨_, rfl⟩
  have hs0 : x0.heap.size = w.heap.size + 1 := by rw [hx0]; simp
  have hb0 : Below w.heap.size w x0 := by rw [hx0]; exact (Below.refl _ w).alloc (Nat.le_refl _) _
  have B0 : Blk x0 w.heap.size #[.int .u32 0, .slice none 0 0] 95 := by rw [hx0]; exact Blk.new w _ _
  have hg0 : ETy x0 := hg.below hb0 hg.lt
  have HPP := hide (parse_any rep_ok t ht x0 hg0)
  have HX := hide (And.intro hs0 (And.intro hb0 (And.intro B0 hg0)))
  have HGL := hide hg.lt
  clear hs0 hb0 B0 hg0 hg
  go_enter Tryz.func71, Tryz.ntmps71
  go_wp2_with fail
  rw [← hx0]
  replace hx0 := hide hx0
  refine (unhide HPP).mono ?_
  rintro e x1 ⟨hcase, hb1⟩
  have hb01 : Below w.heap.size w x1 := (unhide HX).2.1.trans (hb1.mono (unhide HX).2.1.size)
  have hlw : w.heap.size < x0.heap.size := by have := (unhide HX).1; omega
  have B1 := (unhide HX).2.2.1.below hb1 hlw
  have HB1 := hide (And.intro hb01 (And.intro B1 ((unhide HX).2.2.2.below hb1 (unhide HX).2.2.2.lt)))
  clear hb1 hb01 B1 HPP
  rcases hcase with ⟨hok, rfl⟩ | ⟨hok, rfl⟩
  · have hfit := prOk_fit t hok
    have hrs := rs0_ok t hok
    by_cases hk2 : pkd t = 2
    · obtain ⟨n, hn⟩ : ∃ n, pnm t = n := ⟨_, rfl⟩
      rw [hk2, hn]
      rw [hn] at hfit
      have hcv : IntKind.u32.wrap n = n := by
        have : IntKind.u32.wrap n = n % 4294967296 := by simp [IntKind.wrap, IntKind.signed, IntKind.bits]
        rw [this]; omega
      obtain ⟨bd, hbd⟩ : ∃ bd, pbd t = bd := ⟨_, rfl⟩
      rw [hbd]
      have hrs' : rs0 t = ⟨bd, 0, 0⟩ := by rw [rs0, hbd]
      rw [hrs'] at hrs
      have HRHP := hide (show ∀ H ok, ((rdV ⟨bd, 0, 0⟩ 1 = 1 ∧ H = (homesF size 16 (rdS ⟨bd, 0, 0⟩ 1) []).2 ∧ ok = decide (doneE (homesF size 16 (rdS ⟨bd, 0, 0⟩ 1) []).1.r (homesF size 16 (rdS ⟨bd, 0, 0⟩ 1) []).1.e = 0 ∧ H.length = 16)) ∨
     (rdV ⟨bd, 0, 0⟩ 1 ≠ 1 ∧ H = [] ∧ ok = decide (doneE (rdS ⟨bd, 0, 0⟩ 1).r (rdS ⟨bd, 0, 0⟩ 1).e = 0 ∧ rdV ⟨bd, 0, 0⟩ 1 = 0))) → RHP t size n H ok from fun H ok h => by
        rw [← hrs'] at h
        exact .inr ⟨⟨hok, hk2⟩, hn.symm, h⟩)
      obtain ⟨x2, hx2⟩ : ∃ x, x = x1.alloc (Obj.cells #[.int .i64 2, .int .i64 n, .string bd] 123) := ⟨_, rfl⟩
      have hb2 : Below x1.heap.size x1 x2 := by rw [hx2]; exact (Below.refl _ x1).alloc (Nat.le_refl _) _
      have BP2 : Blk x2 x1.heap.size #[.int .i64 2, .int .i64 n, .string bd] 123 := by rw [hx2]; exact Blk.new x1 _ _
      have HB2 := hide (And.intro ((unhide HB1).1.trans (hb2.mono (unhide HB1).1.size)) (And.intro ((unhide HB1).2.1.below hb2 (unhide HB1).2.1.lt) (And.intro ((unhide HB1).2.2.below hb2 (unhide HB1).2.2.lt) BP2)))
      have HCH := hide (fun W => clearHead_any n W)
      have HNR := hide (fun W => newReader_any bd W)
      have HRS := hide hrs
      clear hk2 hn hbd hrs' hb2 BP2 hok hfit hrs
      go_wp2_with fail
      rw [← hx2]
      replace hx2 := hide hx2
      refine (unhide HCH _).mono ?_
      rintro e x3 ⟨rfl, hb3⟩
      obtain ⟨x4, hx4⟩ : ∃ x, x = x3.alloc (Obj.cells #[.int .u32 n, .slice none 0 0] 95) := ⟨_, rfl⟩
      have hb4 : Below x2.heap.size x2 x4 := by rw [hx4]; exact hb3.alloc hb3.size _
      have BH4 : Blk x4 x3.heap.size #[.int .u32 n, .slice none 0 0] 95 := by rw [hx4]; exact Blk.new x3 _ _
      have HB4 := hide (And.intro ((unhide HB2).1.trans (hb4.mono (unhide HB2).1.size)) (And.intro ((unhide HB2).2.1.below hb4 (unhide HB2).2.1.lt) (And.intro ((unhide HB2).2.2.1.below hb4 (unhide HB2).2.2.1.lt) (And.intro ((unhide HB2).2.2.2.below hb4 (unhide HB2).2.2.2.lt) BH4))))
      have hgh : w.heap.size < x3.heap.size := by have := (unhide HB2).2.1.lt; have := hb3.size; omega
      have cp2 : x4.cell? ⟨x1.heap.size, 2, none⟩ = some (.string bd) := (unhide HB4).2.2.2.1.cell 2
      have hlp : x1.heap.size < x3.heap.size := by have := (unhide HB2).2.2.2.lt; have := hb3.size; omega
      have hnp : x1.heap.size ≠ x3.heap.size := by omega
      have cp2' : x3.cell? ⟨x1.heap.size, 2, none⟩ = some (.string bd) := ((unhide HB2).2.2.2.below hb3 (unhide HB2).2.2.2.lt).cell 2
      clear hb3 hb4 BH4 HCH HB2
      go_wp2_with fail
      rw [← hx4]
      replace hx4 := hide hx4
      obtain ⟨gh, hgh2⟩ : ∃ g, x3.heap.size = g := ⟨_, rfl⟩
      rw [hgh2] at HB4 hgh ⊢
      clear hgh2 hlp cp2' hnp
      refine (unhide HNR _).mono ?_
      rintro e x5 ⟨rfl, hR5, hb5, hz5⟩
      have HR5 := hide (show Rds x5 x4.heap.size ⟨bd, 0, 0⟩ from hR5)
      have HB5 := hide (And.intro ((unhide HB4).1.trans (hb5.mono (unhide HB4).1.size)) (And.intro ((unhide HB4).2.1.below hb5 (unhide HB4).2.1.lt) (And.intro ((unhide HB4).2.2.1.below hb5 (unhide HB4).2.2.1.lt) ((unhide HB4).2.2.2.2.below hb5 (unhide HB4).2.2.2.2.lt))))
      have hrbl : gh < x4.heap.size := (unhide HB4).2.2.2.2.lt
      obtain ⟨rb, hrb⟩ : ∃ b, x4.heap.size = b := ⟨_, rfl⟩
      rw [hrb] at HR5 hrbl ⊢
      have HNC := hide (rnum x5 rb ⟨bd, 0, 0⟩ (unhide HR5) (unhide HB5).2.2.1 (unhide HRS) 1)
      have HRN := hide ((unhide HR5).ne (unhide HB5).2.2.1)
      clear hR5 hb5 hz5 hrb HNR HB4 HR5 cp2
      go_wp2_with fail
      refine (unhide HNC).mono ?_
      rintro e x6 ⟨rfl, hR6, hO6⟩
      have HR6 := hide (show Rds x6 rb (rdS ⟨bd, 0, 0⟩ 1) from hR6)
      have HO6 := hide hO6
      have hwrb : w.heap.size ≠ rb := by omega
      have hghrb : gh ≠ rb := by omega
      have hb6 : Below w.heap.size w x6 := (unhide HB5).1.trans (hO6.below (unhide HB5).1.size (fun k hk q => by have q : k = rb := q; omega))
      have B6 := (unhide HB5).2.1.only hO6 hwrb
      have BH6 := (unhide HB5).2.2.2.only hO6 hghrb
      have HB6 := hide (And.intro hb6 (And.intro B6 (And.intro ((unhide HB5).2.2.1.only hO6 (fun q => unhide HRN q.symm)) BH6)))
      have HK6 := hide (rdS_ok ⟨bd, 0, 0⟩ 1 _ (unhide HRS))
      obtain ⟨mk, hmk⟩ : ∃ m, rdV ⟨bd, 0, 0⟩ 1 = m := ⟨_, rfl⟩
      rw [hmk]
      rw [hmk] at HRHP
      clear hR6 hO6 hb6 B6 BH6 hmk HNC HB5 HO6
      obtain ⟨r6, hr6⟩ : ∃ r, rdS ⟨bd, 0, 0⟩ 1 = r := ⟨_, rfl⟩
      rw [hr6] at HR6 HRHP HK6
      clear hr6
      by_cases h1 : mk = 1
      · subst h1
        have HHO := hide (readHomes_any x6 rb r6 (unhide HR6) (unhide HB6).2.2.1 (unhide HK6) size)
        go_wp2_with fail
        refine (unhide HHO).mono ?_
        rintro e x7 ⟨v7, rfl, hrow7, hR7, hK7, hO7⟩
        have hb7 : Below w.heap.size w x7 := (unhide HB6).1.trans (hO7.below (unhide HB6).1.size (fun k hk q => by have q : k = rb := q; omega))
        have B7 := (unhide HB6).2.1.only hO7 hwrb
        have BH7 := (unhide HB6).2.2.2.only hO7 hghrb
        obtain ⟨R7, H7, hRH⟩ : ∃ R H, homesF size 16 r6 [] = (R, H) := ⟨_, _, rfl⟩
        rw [hRH] at hrow7 hR7 HRHP
        obtain ⟨p7, c7, rfl, _⟩ := row_form hrow7
        have hne7 : ∀ q, (Value.slice p7 H7.length c7).ownBlock = some q → x6.heap.size ≤ q := fun q hq => (hrow7.lt q hq).1
        have HROW := hide (owns_base hrow7 (unhide HB6).1.size)
        have HN7 := hide hne7
        have hl6 : w.heap.size < x6.heap.size ∧ gh < x6.heap.size := ⟨(unhide HB6).2.1.lt, (unhide HB6).2.2.2.lt⟩
        have HL6 := hide hl6
        have q1 : x7.cell? ⟨gh, 1, none⟩ = some (.slice none 0 0) := BH7.cell 1
        have f1 : x7.frozen? ⟨gh, 1, none⟩ = false := BH7.frozen 1
        have HB7 := hide (And.intro hb7 (And.intro B7 BH7))
        obtain ⟨x8, hx8⟩ : ∃ x, x = x7.setCell ⟨gh, 1, none⟩ (.slice p7 H7.length c7) := ⟨_, rfl⟩
        have HR8 := hide (show Rds x8 rb R7 from by rw [hx8]; exact Rds.only hR7 ((Only.refl (fun k => k = gh) x7).setCell _ _ (fun _ => rfl)) (fun q => hghrb q.symm))
        have HD8 := hide (rdone_any x8 rb R7.r R7.t R7.e (unhide HR8))
        clear hrow7 hR7 hK7 hO7 hb7 B7 BH7 hRH HHO hne7 hl6
        generalize hHl : H7.length = m7 at *
        have HHL := hide hHl
        clear hHl
        go_wp2_with fail
        rw [← hx8]
        refine (unhide HD8).mono ?_
        rintro e x9 ⟨rfl, hb9⟩
        have BH8 : Blk x8 gh #[.int .u32 n, .slice p7 m7 c7] 95 := by rw [hx8]; exact (unhide HB7).2.2.set 1 _
        have B8 : Blk x8 w.heap.size #[.int .u32 0, .slice none 0 0] 95 := by rw [hx8]; exact (unhide HB7).2.1.other _ _ (by show gh ≠ w.heap.size; omega)
        have BH9 := BH8.below hb9 BH8.lt
        have B9 := B8.below hb9 B8.lt
        have hb8 : Below w.heap.size w x8 := by rw [hx8]; exact (unhide HB7).1.setCell (by show w.heap.size ≤ gh; omega) _
        have hrow9 : x9.ownsRow w.heap.size 3 1 (.slice p7 m7 c7) m7 (H7.map (Value.int .i64)) := by
          have h8 : x8.ownsRow w.heap.size 3 1 (.slice p7 m7 c7) m7 (H7.map (Value.int .i64)) := by
            rw [hx8]
            exact owns_setO (unhide HROW) _ _ (fun q => by have h1 : x6.heap.size ≤ gh := unhide HN7 _ q; have := (unhide HL6).2; omega)
          exact owns_only h8 (Only.of_below (P := fun _ => False) hb9) (fun _ _ q => q)
        have c0 : x9.cell? ⟨gh, 0, none⟩ = some (.int .u32 n) := BH9.cell 0
        have c1 : x9.cell? ⟨gh, 1, none⟩ = some (.slice p7 m7 c7) := BH9.cell 1
        have d0 : x9.cell? ⟨w.heap.size, 0, none⟩ = some (.int .u32 0) := B9.cell 0
        have d1 : x9.cell? ⟨w.heap.size, 1, none⟩ = some (.slice none 0 0) := B9.cell 1
        have g0 := B9.frozen 0
        have g1 := B9.frozen 1
        have HF := hide (And.intro (hb8.trans (hb9.mono hb8.size)) (And.intro B9 hrow9))
        replace hx8 := hide hx8
        obtain ⟨D, hD⟩ : ∃ D, doneE R7.r R7.e = D := ⟨_, rfl⟩
        rw [hD] at HRHP ⊢
        clear hb9 BH8 B8 BH9 B9 hb8 hrow9 HD8 HR8 q1 f1 hD
        have hlast : ∀ ok, ok = decide (D = 0 ∧ m7 = 16) → RHP t size n H7 ok := fun ok hq => unhide HRHP H7 ok (.inl ⟨by first | rfl | trivial, rfl, by rw [unhide HHL]; exact hq⟩)
        have HLS := hide hlast
        have hne0 : gh ≠ w.heap.size := by omega
        clear hlast HRHP
        by_cases hD0 : D = 0
        · subst hD0
          by_cases hw : m7 = 16
          · subst hw
            go_wp2
            have B := ((unhide HF).2.1.set 0 (.int .u32 n)).set 1 (.slice p7 16 c7)
            have hld := load_blk 95 _ B Tryz.underlying95 rfl (by kernel_rfl)
            refine bodyPost_ret (v := .tuple #[.agg #[.int .u32 n, .slice p7 16 c7], .bool true]) (results_pair rfl _ _ _ ⟨w.heap.size, 0, none⟩ rfl _ hld _ rfl) rfl ?_
            have hPF : RhPost t size w (.returned (.tuple #[.agg #[.int .u32 n, .slice p7 16 c7], .bool true])) ((x9.setCell ⟨w.heap.size, 0, none⟩ (.int .u32 n)).setCell ⟨w.heap.size, 1, none⟩ (.slice p7 16 c7)) := by
              have hl := unhide HHL
              refine ⟨p7, c7, H7, n, true, by rw [hl], unhide HLS true (by simp), ?_, ((unhide HF).1.setCell (Nat.le_refl _) _).setCell (Nat.le_refl _) _⟩
              rw [hl]
              exact owns_setO (owns_setO (unhide HF).2.2 _ _ (fun q => by have h1 : x6.heap.size ≤ w.heap.size := unhide HN7 _ q; have := (unhide HL6).1; omega)) _ _ (fun q => by have h1 : x6.heap.size ≤ w.heap.size := unhide HN7 _ q; have := (unhide HL6).1; omega)
            exact hPF
          · have hwb : ((m7 : Int) == 16) = false := by simp; omega
            go_wp2
            have B := ((unhide HF).2.1.set 0 (.int .u32 n)).set 1 (.slice p7 m7 c7)
            have hld := load_blk 95 _ B Tryz.underlying95 rfl (by kernel_rfl)
            refine bodyPost_ret (v := .tuple #[.agg #[.int .u32 n, .slice p7 m7 c7], .bool false]) (results_pair rfl _ _ _ ⟨w.heap.size, 0, none⟩ rfl _ hld _ rfl) rfl ?_
            have hPF : RhPost t size w (.returned (.tuple #[.agg #[.int .u32 n, .slice p7 m7 c7], .bool false])) ((x9.setCell ⟨w.heap.size, 0, none⟩ (.int .u32 n)).setCell ⟨w.heap.size, 1, none⟩ (.slice p7 m7 c7)) := by
              have hl := unhide HHL
              refine ⟨p7, c7, H7, n, false, by rw [hl], unhide HLS false (by simp [hw]), ?_, ((unhide HF).1.setCell (Nat.le_refl _) _).setCell (Nat.le_refl _) _⟩
              rw [hl]
              exact owns_setO (owns_setO (unhide HF).2.2 _ _ (fun q => by have h1 : x6.heap.size ≤ w.heap.size := unhide HN7 _ q; have := (unhide HL6).1; omega)) _ _ (fun q => by have h1 : x6.heap.size ≤ w.heap.size := unhide HN7 _ q; have := (unhide HL6).1; omega)
            exact hPF
        · have hDb : (D == 0) = false := by simpa using hD0
          by_cases hw : m7 = 16
          · subst hw
            go_wp2
            have B := ((unhide HF).2.1.set 0 (.int .u32 n)).set 1 (.slice p7 16 c7)
            have hld := load_blk 95 _ B Tryz.underlying95 rfl (by kernel_rfl)
            refine bodyPost_ret (v := .tuple #[.agg #[.int .u32 n, .slice p7 16 c7], .bool false]) (results_pair rfl _ _ _ ⟨w.heap.size, 0, none⟩ rfl _ hld _ rfl) rfl ?_
            have hPF : RhPost t size w (.returned (.tuple #[.agg #[.int .u32 n, .slice p7 16 c7], .bool false])) ((x9.setCell ⟨w.heap.size, 0, none⟩ (.int .u32 n)).setCell ⟨w.heap.size, 1, none⟩ (.slice p7 16 c7)) := by
              have hl := unhide HHL
              refine ⟨p7, c7, H7, n, false, by rw [hl], unhide HLS false (by simp [hD0]), ?_, ((unhide HF).1.setCell (Nat.le_refl _) _).setCell (Nat.le_refl _) _⟩
              rw [hl]
              exact owns_setO (owns_setO (unhide HF).2.2 _ _ (fun q => by have h1 : x6.heap.size ≤ w.heap.size := unhide HN7 _ q; have := (unhide HL6).1; omega)) _ _ (fun q => by have h1 : x6.heap.size ≤ w.heap.size := unhide HN7 _ q; have := (unhide HL6).1; omega)
            exact hPF
          · have hwb : ((m7 : Int) == 16) = false := by simp; omega
            go_wp2
            have B := ((unhide HF).2.1.set 0 (.int .u32 n)).set 1 (.slice p7 m7 c7)
            have hld := load_blk 95 _ B Tryz.underlying95 rfl (by kernel_rfl)
            refine bodyPost_ret (v := .tuple #[.agg #[.int .u32 n, .slice p7 m7 c7], .bool false]) (results_pair rfl _ _ _ ⟨w.heap.size, 0, none⟩ rfl _ hld _ rfl) rfl ?_
            have hPF : RhPost t size w (.returned (.tuple #[.agg #[.int .u32 n, .slice p7 m7 c7], .bool false])) ((x9.setCell ⟨w.heap.size, 0, none⟩ (.int .u32 n)).setCell ⟨w.heap.size, 1, none⟩ (.slice p7 m7 c7)) := by
              have hl := unhide HHL
              refine ⟨p7, c7, H7, n, false, by rw [hl], unhide HLS false (by simp [hD0]), ?_, ((unhide HF).1.setCell (Nat.le_refl _) _).setCell (Nat.le_refl _) _⟩
              rw [hl]
              exact owns_setO (owns_setO (unhide HF).2.2 _ _ (fun q => by have h1 : x6.heap.size ≤ w.heap.size := unhide HN7 _ q; have := (unhide HL6).1; omega)) _ _ (fun q => by have h1 : x6.heap.size ≤ w.heap.size := unhide HN7 _ q; have := (unhide HL6).1; omega)
            exact hPF
      · have h1b : (mk == 1) = false := by simpa using h1
        have HD8 := hide (rdone_any x6 rb r6.r r6.t r6.e (unhide HR6))
        go_wp2_with fail
        refine (unhide HD8).mono ?_
        rintro e x9 ⟨rfl, hb9⟩
        have BH9 := (unhide HB6).2.2.2.below hb9 (unhide HB6).2.2.2.lt
        have B9 := (unhide HB6).2.1.below hb9 (unhide HB6).2.1.lt
        have c0 : x9.cell? ⟨gh, 0, none⟩ = some (.int .u32 n) := BH9.cell 0
        have c1 : x9.cell? ⟨gh, 1, none⟩ = some (.slice none 0 0) := BH9.cell 1
        have d0 : x9.cell? ⟨w.heap.size, 0, none⟩ = some (.int .u32 0) := B9.cell 0
        have d1 : x9.cell? ⟨w.heap.size, 1, none⟩ = some (.slice none 0 0) := B9.cell 1
        have g0 := B9.frozen 0
        have g1 := B9.frozen 1
        have HF := hide (And.intro ((unhide HB6).1.trans (hb9.mono (unhide HB6).1.size)) (And.intro B9 trivial))
        obtain ⟨D, hD⟩ : ∃ D, doneE r6.r r6.e = D := ⟨_, rfl⟩
        rw [hD] at HRHP ⊢
        clear hb9 BH9 B9 HD8 hD
        have hlast : ∀ ok, ok = decide (D = 0 ∧ mk = 0) → RHP t size n [] ok := fun ok hq => unhide HRHP [] ok (.inr ⟨h1, rfl, hq⟩)
        have HLS := hide hlast
        have hne0 : gh ≠ w.heap.size := by omega
        clear hlast HRHP
        by_cases hD0 : D = 0
        · subst hD0
          by_cases hw : mk = 0
          · subst hw
            go_wp2
            have B := ((unhide HF).2.1.set 0 (.int .u32 n)).set 1 (.slice none 0 0)
            have hld := load_blk 95 _ B Tryz.underlying95 rfl (by kernel_rfl)
            refine bodyPost_ret (v := .tuple #[.agg #[.int .u32 n, .slice none 0 0], .bool true]) (results_pair rfl _ _ _ ⟨w.heap.size, 0, none⟩ rfl _ hld _ rfl) rfl ?_
            have hPF : RhPost t size w (.returned (.tuple #[.agg #[.int .u32 n, .slice none 0 0], .bool true])) ((x9.setCell ⟨w.heap.size, 0, none⟩ (.int .u32 n)).setCell ⟨w.heap.size, 1, none⟩ (.slice none 0 0)) := ⟨none, 0, [], n, true, rfl, unhide HLS true (by simp), nilRow _ _, (by refine ((unhide HF).1.setCell ?_ _).setCell ?_ _ <;> exact Nat.le_refl _)⟩
            exact hPF
          · have hwb : (mk == 0) = false := by simpa using hw
            go_wp2
            have B := ((unhide HF).2.1.set 0 (.int .u32 n)).set 1 (.slice none 0 0)
            have hld := load_blk 95 _ B Tryz.underlying95 rfl (by kernel_rfl)
            refine bodyPost_ret (v := .tuple #[.agg #[.int .u32 n, .slice none 0 0], .bool false]) (results_pair rfl _ _ _ ⟨w.heap.size, 0, none⟩ rfl _ hld _ rfl) rfl ?_
            have hPF : RhPost t size w (.returned (.tuple #[.agg #[.int .u32 n, .slice none 0 0], .bool false])) ((x9.setCell ⟨w.heap.size, 0, none⟩ (.int .u32 n)).setCell ⟨w.heap.size, 1, none⟩ (.slice none 0 0)) := ⟨none, 0, [], n, false, rfl, unhide HLS false (by simp [hw]), nilRow _ _, (by refine ((unhide HF).1.setCell ?_ _).setCell ?_ _ <;> exact Nat.le_refl _)⟩
            exact hPF
        · have hDb : (D == 0) = false := by simpa using hD0
          by_cases hw : mk = 0
          · subst hw
            go_wp2
            have B := ((unhide HF).2.1.set 0 (.int .u32 n)).set 1 (.slice none 0 0)
            have hld := load_blk 95 _ B Tryz.underlying95 rfl (by kernel_rfl)
            refine bodyPost_ret (v := .tuple #[.agg #[.int .u32 n, .slice none 0 0], .bool false]) (results_pair rfl _ _ _ ⟨w.heap.size, 0, none⟩ rfl _ hld _ rfl) rfl ?_
            have hPF : RhPost t size w (.returned (.tuple #[.agg #[.int .u32 n, .slice none 0 0], .bool false])) ((x9.setCell ⟨w.heap.size, 0, none⟩ (.int .u32 n)).setCell ⟨w.heap.size, 1, none⟩ (.slice none 0 0)) := ⟨none, 0, [], n, false, rfl, unhide HLS false (by simp [hD0]), nilRow _ _, (by refine ((unhide HF).1.setCell ?_ _).setCell ?_ _ <;> exact Nat.le_refl _)⟩
            exact hPF
          · have hwb : (mk == 0) = false := by simpa using hw
            go_wp2
            have B := ((unhide HF).2.1.set 0 (.int .u32 n)).set 1 (.slice none 0 0)
            have hld := load_blk 95 _ B Tryz.underlying95 rfl (by kernel_rfl)
            refine bodyPost_ret (v := .tuple #[.agg #[.int .u32 n, .slice none 0 0], .bool false]) (results_pair rfl _ _ _ ⟨w.heap.size, 0, none⟩ rfl _ hld _ rfl) rfl ?_
            have hPF : RhPost t size w (.returned (.tuple #[.agg #[.int .u32 n, .slice none 0 0], .bool false])) ((x9.setCell ⟨w.heap.size, 0, none⟩ (.int .u32 n)).setCell ⟨w.heap.size, 1, none⟩ (.slice none 0 0)) := ⟨none, 0, [], n, false, rfl, unhide HLS false (by simp [hD0]), nilRow _ _, (by refine ((unhide HF).1.setCell ?_ _).setCell ?_ _ <;> exact Nat.le_refl _)⟩
            exact hPF
    · have hk2b : (pkd t != 2) = true := by simp [hk2]
      have HRH := hide (show RHP t size 0 [] false from .inl ⟨fun q => hk2 q.2, rfl, rfl, rfl⟩)
      obtain ⟨kd, hkd⟩ : ∃ k, pkd t = k := ⟨_, rfl⟩
      rw [hkd] at hk2b ⊢
      clear hkd hk2 hok hfit hrs
      have B1 := (unhide HB1).2.1
      have d0 : x1.cell? ⟨w.heap.size, 0, none⟩ = some (.int .u32 0) := B1.cell 0
      have d1 : x1.cell? ⟨w.heap.size, 1, none⟩ = some (.slice none 0 0) := B1.cell 1
      have g0 := B1.frozen 0
      have g1 := B1.frozen 1
      have hlt1 : w.heap.size < x1.heap.size := B1.lt
      have hne1 : w.heap.size ≠ x1.heap.size := by omega
      clear B1
      go_wp2
      have B := (((unhide HB1).2.1.set 0 (.int .u32 0)).set 1 (.slice none 0 0)).alloc (Obj.cells #[.int .i64 kd, .int .i64 (pnm t), .string (pbd t)] 123)
      have hld := load_blk 95 _ B Tryz.underlying95 rfl (by kernel_rfl)
      refine bodyPost_ret (v := .tuple #[.agg #[.int .u32 0, .slice none 0 0], .bool false]) (results_pair rfl _ _ _ ⟨w.heap.size, 0, none⟩ rfl _ hld _ rfl) rfl ⟨none, 0, [], 0, false, rfl, unhide HRH, nilRow _ _, ?_⟩
      exact (((unhide HB1).1.setCell (Nat.le_refl _) _).setCell (Nat.le_refl _) _).alloc (by have := (unhide HB1).1.size; simpa using this) _
  · have HRH := hide (show RHP t size 0 [] false from .inl ⟨fun q => hok q.1, rfl, rfl, rfl⟩)
    clear hok
    have B1 := (unhide HB1).2.1
    have d0 : x1.cell? ⟨w.heap.size, 0, none⟩ = some (.int .u32 0) := B1.cell 0
    have d1 : x1.cell? ⟨w.heap.size, 1, none⟩ = some (.slice none 0 0) := B1.cell 1
    have g0 := B1.frozen 0
    have g1 := B1.frozen 1
    have hlt1 : w.heap.size < x1.heap.size := B1.lt
    have hne1 : w.heap.size ≠ x1.heap.size := by omega
    clear B1
    go_wp2
    have B := (((unhide HB1).2.1.set 0 (.int .u32 0)).set 1 (.slice none 0 0)).alloc (Obj.cells #[.int .i64 0, .int .i64 0, .string ⟨#[]⟩] 123)
    have hld := load_blk 95 _ B Tryz.underlying95 rfl (by kernel_rfl)
    refine bodyPost_ret (v := .tuple #[.agg #[.int .u32 0, .slice none 0 0], .bool false]) (results_pair rfl _ _ _ ⟨w.heap.size, 0, none⟩ rfl _ hld _ rfl) rfl ⟨none, 0, [], 0, false, rfl, unhide HRH, nilRow _ _, ?_⟩
    exact (((unhide HB1).1.setCell (Nat.le_refl _) _).setCell (Nat.le_refl _) _).alloc (by have := (unhide HB1).1.size; simpa using this) _
end Go.Proofs.YtffiaogbphgmgaaGreatDoor

namespace Go.Proofs.YtffiaogbphgmgaaGreatDoor
open Go.RowKit
theorem shr_step (v : Int) (k : Nat) : v / 2 ^ (8 * k) / 256 = v / 2 ^ (8 * (k + 1)) := by
  rw [Int.ediv_ediv_of_nonneg (by exact Int.pow_nonneg (by omega)), show 8 * (k + 1) = 8 * k + 8 by omega, Int.pow_add]
  rfl
theorem be_numB_take (v : Int) (k : Nat) (h : fitsP v k) : ∀ j, j ≤ k → beN ((numB v k).take j) = v / 2 ^ (8 * (k - j)) := by
  intro j
  induction j with
  | zero =>
    intro _
    rw [List.take_zero, beN_nil, Nat.sub_zero]
    exact h.2.symm
  | succ j ih =>
    intro hj
    rw [numB_take v k j (by omega), beN_snoc, ih (by omega), show k - j = (k - 1 - j) + 1 by omega, ← shr_step, show k - (j + 1) = k - 1 - j by omega]
    generalize v / 2 ^ (8 * (k - 1 - j)) = q
    omega
theorem be_numB (v : Int) (k : Nat) (h : fitsP v k) : beN (numB v k) = v := by
  have := be_numB_take v k h k (Nat.le_refl _)
  rw [numB_all, Nat.sub_self] at this
  simpa using this
theorem size_tail (s : ByteArray) (a : Nat) : (s.extract a s.size).size = s.size - a := by simp
theorem getD_drop0 (l : List Int) (i : Nat) : beN ((l.drop i).take 1) = l.getD i 0 := by
  by_cases h : i < l.length
  · rw [List.drop_eq_getElem_cons h, List.getD_eq_getElem?_getD, List.getElem?_eq_getElem h]
    exact be_one _ _
  · rw [List.drop_eq_nil_of_le (by omega), List.getD_eq_getElem?_getD, List.getElem?_eq_none (by omega)]
    rfl
set_option maxRecDepth 100000 in
theorem numE_ok (k : Nat) (r : ByteArray) (h1 : 1 ≤ k) (h7 : k ≤ 7) (h : k ≤ r.size) : numE (k : Int) r = 0 := by
  have hb := be_bound (nums r) (nums_bytes r) k
  have hp : (256 : Int) ^ k ≤ 256 ^ 7 := by
    have h1 : (256 : Nat) ^ k ≤ 256 ^ 7 := Nat.pow_le_pow_right (by decide) h7
    exact_mod_cast h1
  have h77 : (256 : Int) ^ 7 = 72057594037927936 := by decide
  rw [numE, if_neg (by omega), if_neg (by omega), Int.toNat_natCast, if_neg (by omega)]
theorem ps1_eq (s : ByteArray) (h : 2 ≤ s.size) : ps1 s = ⟨s.extract 2 s.size, 2, 0⟩ := by
  have hE : rawE 2 s = 0 := by rw [rawE, if_neg (by omega), if_neg (by omega)]
  rw [ps1, stepR, if_pos rfl, hE, rRest, if_pos rfl, rTak, if_pos rfl]
  rfl
theorem ps2_eq (s : ByteArray) (h : 3 ≤ s.size) : pkd s = (nums s).getD 2 0 ∧ ps2 s = ⟨s.extract 3 s.size, 3, 0⟩ := by
  have hE : numE 1 (s.extract 2 s.size) = 0 := numE_ok 1 _ (by omega) (by omega) (by rw [size_tail]; omega)
  refine ⟨?_, ?_⟩
  · rw [pkd, ps1_eq s (by omega), if_pos rfl, numV, if_pos hE, nums_tail]
    exact getD_drop0 _ _
  · rw [ps2, ps1_eq s (by omega), stepR, if_pos rfl, hE, rRest, if_pos rfl, rTak, if_pos rfl, extract_tail]
    rfl
theorem ps3_eq (s : ByteArray) (h : 4 ≤ s.size) : pln s = (nums s).getD 3 0 ∧ ps3 s = ⟨s.extract 4 s.size, 4, 0⟩ := by
  have hE : numE 1 (s.extract 3 s.size) = 0 := numE_ok 1 _ (by omega) (by omega) (by rw [size_tail]; omega)
  refine ⟨?_, ?_⟩
  · rw [pln, (ps2_eq s (by omega)).2, if_pos rfl, numV, if_pos hE, nums_tail]
    exact getD_drop0 _ _
  · rw [ps3, (ps2_eq s (by omega)).2, stepR, if_pos rfl, hE, rRest, if_pos rfl, rTak, if_pos rfl, extract_tail]
    rfl
theorem ps4_eq (s : ByteArray) (h : 8 ≤ s.size) : pnm s = beN (((nums s).drop 4).take 4) ∧ ps4 s = ⟨s.extract 8 s.size, 8, 0⟩ := by
  have hE : numE 4 (s.extract 4 s.size) = 0 := numE_ok 4 _ (by omega) (by omega) (by rw [size_tail]; omega)
  refine ⟨?_, ?_⟩
  · rw [pnm, (ps3_eq s (by omega)).2, if_pos rfl, numV, if_pos hE, nums_tail]
    rfl
  · rw [ps4, (ps3_eq s (by omega)).2, stepR, if_pos rfl, hE, rRest, if_pos rfl, rTak, if_pos rfl, extract_tail]
    rfl
theorem pbd_eq (s : ByteArray) (n : Nat) (h : 8 + n ≤ s.size) (hn : (nums s).getD 3 0 = (n : Int)) : pbd s = s.extract 8 (8 + n) := by
  have hE : rawE (n : Int) (s.extract 8 s.size) = 0 := by rw [rawE, if_neg (by omega), if_neg (by rw [size_tail]; omega)]
  rw [pbd, (ps4_eq s (by omega)).2, if_pos rfl, (ps3_eq s (by omega)).1, hn, rawV, if_pos hE, Int.toNat_natCast, extract_mid]
/-- The letters and numbers at the front of a page. -/
theorem page_front (kind number : Int) (body : List Int) (hk : fitsP kind 1) (hb : body.length ≤ 244) : makeL kind number body = [83, 66, kind, (body.length : Int)] ++ (numB number 4 ++ (body ++ (List.replicate (244 - body.length) 0 ++ le4 (chkN (pageL kind number body))))) := by
  obtain ⟨h1, h2⟩ := (fits1 kind).1 hk
  rw [makeL]
  conv => lhs; arg 1; rw [pageL]
  rw [numB1 kind h1 h2, numB1 (body.length : Int) (by omega) (by omega)]
  simp
theorem page_parts (kind number : Int) (body : ByteArray) (hk : fitsP kind 1) (hn : fitsP number 4) (hb : body.size ≤ 244) (s : ByteArray) (hs : nums s = makeL kind number (nums body)) :
    s.size = 256 ∧ (nums s).getD 2 0 = kind ∧ (nums s).getD 3 0 = (body.size : Int) ∧ beN (((nums s).drop 4).take 4) = number ∧ s.extract 8 (8 + body.size) = body := by
  have hl : (nums body).length ≤ 244 := by rw [nums_len]; exact hb
  have hsz : s.size = 256 := by rw [← nums_len, hs]; exact makeL_len _ _ _ hl
  have hf := page_front kind number (nums body) hk hl
  rw [nums_len] at hf
  refine ⟨hsz, ?_, ?_, ?_, ?_⟩
  · rw [hs, hf]; rfl
  · rw [hs, hf]; rfl
  · rw [hs, hf]
    have e1 : ([83, 66, kind, (body.size : Int)] ++ (numB number 4 ++ (nums body ++ (List.replicate (244 - body.size) 0 ++ le4 (chkN (pageL kind number (nums body))))))).drop 4 = numB number 4 ++ (nums body ++ (List.replicate (244 - body.size) 0 ++ le4 (chkN (pageL kind number (nums body))))) := rfl
    rw [e1, List.take_append_of_le_length (by rw [numB_len]; exact Nat.le_refl _), numB_all, be_numB number 4 hn]
  · apply nums_inj
    rw [nums_extract, List.drop_take, hs, hf]
    have e1 : ([83, 66, kind, (body.size : Int)] ++ (numB number 4 ++ (nums body ++ (List.replicate (244 - body.size) 0 ++ le4 (chkN (pageL kind number (nums body))))))).drop 8 = nums body ++ (List.replicate (244 - body.size) 0 ++ le4 (chkN (pageL kind number (nums body)))) := by
      rw [show (8 : Nat) = 4 + 4 from rfl, ← List.drop_drop]
      have e2 : ([83, 66, kind, (body.size : Int)] ++ (numB number 4 ++ (nums body ++ (List.replicate (244 - body.size) 0 ++ le4 (chkN (pageL kind number (nums body))))))).drop 4 = numB number 4 ++ (nums body ++ (List.replicate (244 - body.size) 0 ++ le4 (chkN (pageL kind number (nums body))))) := rfl
      rw [e2]
      have h4 : (numB number 4).length = 4 := numB_len _ _
      conv => lhs; arg 1; rw [← h4]
      rw [List.drop_left]
    rw [e1, show 8 + body.size - 8 = (nums body).length by rw [nums_len]; omega, List.take_left]
/-- A made page is read as itself. -/
theorem make_parse (kind number : Int) (body : ByteArray) (hE : errM kind number body.size = 0) : prOk (makeB kind number body) ∧ pkd (makeB kind number body) = kind ∧ pnm (makeB kind number body) = number ∧ pbd (makeB kind number body) = body := by
  have hm : makeB kind number body = strOfNums (makeL kind number (nums body)) := by rw [makeB, if_pos hE]
  have hf : fitsP kind 1 ∧ fitsP number 4 ∧ body.size ≤ 244 := by
    unfold errM at hE
    split at hE
    · cases hE
    · rename_i h1
      split at hE
      · cases hE
      · simp at h1
        exact ⟨h1.1, h1.2, by omega⟩
  have hn : nums (makeB kind number body) = makeL kind number (nums body) := by rw [hm]; exact nums_strOfNums _ (makeL_bytes _ _ _ (nums_bytes _))
  obtain ⟨p1, p2, p3, p4, p5⟩ := page_parts kind number body hf.1 hf.2.1 hf.2.2 _ hn
  have k1 : pkd (makeB kind number body) = kind := by rw [(ps2_eq _ (by omega)).1, p2]
  have k2 : pnm (makeB kind number body) = number := by rw [(ps4_eq _ (by omega)).1, p4]
  have k3 : pbd (makeB kind number body) = body := by rw [pbd_eq _ body.size (by omega) p3, p5]
  exact ⟨⟨by rw [k1, k2, k3]; exact hE, by rw [k1, k2, k3]⟩, k1, k2, k3⟩
theorem errM_zero {kind number : Int} {n : Nat} (hE : errM kind number n = 0) : fitsP kind 1 ∧ fitsP number 4 ∧ n ≤ 244 := by
  unfold errM at hE
  split at hE
  · cases hE
  · rename_i h1
    split at hE
    · cases hE
    · simp at h1
      exact ⟨h1.1, h1.2, by omega⟩
theorem prOk_size (s : ByteArray) (h : prOk s) : s.size = 256 ∧ (nums s).getD 3 0 ≤ 244 := by
  obtain ⟨hf1, hf2, hf3⟩ := errM_zero h.1
  have hm : s = strOfNums (makeL (pkd s) (pnm s) (nums (pbd s))) := by
    have := h.2
    rw [makeB, if_pos h.1] at this
    exact this.symm
  have hn : nums s = makeL (pkd s) (pnm s) (nums (pbd s)) := by
    have := congrArg nums hm
    rwa [nums_strOfNums _ (makeL_bytes _ _ _ (nums_bytes _))] at this
  obtain ⟨p1, _, p3, _, _⟩ := page_parts (pkd s) (pnm s) (pbd s) hf1 hf2 hf3 s hn
  exact ⟨p1, by rw [p3]; omega⟩
end Go.Proofs.YtffiaogbphgmgaaGreatDoor
