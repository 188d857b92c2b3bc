import Derived.Test.YtdpnbemagiekoaaGreatDoorMe11
set_option maxHeartbeats 2000000
set_option maxRecDepth 100000
namespace Go.Proofs.YtdpnbemagiekoaaGreatDoor
section
open Go.RowKit
theorem rnum (w : World) (b : Nat) (s : RSt) (h : Rds w b s) (hg : ETy w) (hN : s.ok 9223372036854775807) (bytes : Int) : Calls Tryz.prog 193 #[.pointer (some ⟨b, 0, none⟩), .int .i64 bytes] w fun ev w' => ev = .returned (.int .i64 (rdV s bytes)) /\ Rds w' b (rdS s bytes) /\ Only (fun k => k = b) w w' := numS w b s h hg hN bytes
def rs0 (t : ByteArray) : RSt := ⟨pbd t, 0, 0⟩
def RHP (t : ByteArray) (size : Int) (n : Int) (H : List Int) (ok : Bool) : Prop :=
  (¬ (prOk t /\ pkd t = 2) /\ n = 0 /\ H = [] /\ ok = false) ∨ ((prOk t /\ pkd t = 2) /\ n = pnm t /\
    ((rdV (rs0 t) 1 = 1 /\ H = (zAW size 16 (rdS (rs0 t) 1) []).2 /\ ok = decide (zCI (zAW size 16 (rdS (rs0 t) 1) []).1.r (zAW size 16 (rdS (rs0 t) 1) []).1.e = 0 /\ H.length = 16)) ∨
     (rdV (rs0 t) 1 ≠ 1 /\ H = [] /\ ok = decide (zCI (rdS (rs0 t) 1).r (rdS (rs0 t) 1).e = 0 /\ rdV (rs0 t) 1 = 0))))
theorem zIE (t : ByteArray) (h : prOk t) : 0 <= pnm t /\ pnm t <= 4294967295 := by
 have := h.1
 unfold errM at this
 split at this
 ·cases this
 ·rename_i hq
  have hf : zAJ (pnm t) 4 := Classical.byContradiction (fun q => hq (.inr q))
  exact (fits4 _).1 hf
theorem zPf (t : ByteArray) (h : prOk t) : (rs0 t).ok 9223372036854775807 := by
 have h1 := h.1
 unfold errM at h1
 split at h1
 ·cases h1
 ·split at h1
  ·cases h1
  ·exact ⟨Int.le_refl _, by show (0 : Int) + ((pbd t).size : Int) <= _; omega⟩
theorem zFr (w : World) (base : Nat) : w.ownsRow base 3 1 (.slice none 0 0) ([] : List Int).length (([] : List Int).map (Value.int .i64)) := World.ownsRow_nil _ _ _ _
def zDu (t : ByteArray) (size : Int) (w : World) (e : Ending) (w' : World) : Prop :=
 ∃ p c H n ok, e = .returned (.tuple #[.agg #[.int .u32 n, .slice p H.length c], .bool ok]) /\ RHP t size n H ok /\ w'.ownsRow w.heap.size 3 1 (.slice p H.length c) H.length (H.map (Value.int .i64)) /\ Below w.heap.size w w'
theorem zG5 (w : World) (hg : ETy w) (t : ByteArray) (ht : t.size <= 9223372036854775807) (size : Int) :
    Calls Tryz.prog 202 #[.string t, .int .i64 size] w (zDu t size w) := by
  obtain ⟨x0, hx0⟩ : ∃ x, x = w.alloc (Obj.cells #[.int .u32 0, .slice none 0 0] 151) := ⟨_, rfl⟩
  have hs0 : x0.heap.size = w.heap.size + 1 := by rw [hx0]; simp
  have hb0 : Below w.heap.size w x0 := by rw [hx0]; exact (Below.refl _ w).alloc (Nat.le_refl _) _
  have B0 : Blk x0 w.heap.size #[.int .u32 0, .slice none 0 0] 151 := by rw [hx0]; exact Blk.new w _ _
  have hg0 : ETy x0 := hg.below hb0 hg.lt
  have HPP := uB (zES zCv t ht x0 hg0)
  have HX := uB (And.intro hs0 (And.intro hb0 (And.intro B0 hg0)))
  have HGL := uB hg.lt
  clear hs0 hb0 B0 hg0 hg
  go_enter Tryz.func202, Tryz.ntmps202
  go_wp2_with fail
  rw [<- hx0]
  replace hx0 := uB hx0
  refine (uA HPP).mono ?_
  rintro e x1 ⟨hcase, hb1⟩
  have hb01 : Below w.heap.size w x1 := (uA HX).2.1.trans (hb1.mono (uA HX).2.1.size)
  have hlw : w.heap.size < x0.heap.size := by have := (uA HX).1; omega
  have B1 := (uA HX).2.2.1.below hb1 hlw
  have HB1 := uB (And.intro hb01 (And.intro B1 ((uA HX).2.2.2.below hb1 (uA HX).2.2.2.lt)))
  clear hb1 hb01 B1 HPP
  rcases hcase with ⟨hok, rfl⟩ | ⟨hok, rfl⟩
  · have hfit := zIE t hok
    have hrs := zPf t hok
    by_cases hk2 : pkd t = 2
    · obtain ⟨n, hn⟩ : ∃ n, pnm t = n := ⟨_, rfl⟩
      rw [hk2, hn]
      rw [hn] at hfit
      have hcv : IntKind.u32.wrap n = n := by
        have : IntKind.u32.wrap n = n % 4294967296 := by simp [IntKind.wrap, IntKind.signed, IntKind.bits]
        rw [this]; omega
      obtain ⟨bd, hbd⟩ : ∃ bd, pbd t = bd := ⟨_, rfl⟩
      rw [hbd]
      have hrs' : rs0 t = ⟨bd, 0, 0⟩ := by rw [rs0, hbd]
      rw [hrs'] at hrs
      have HRHP := uB (show ∀ H ok, ((rdV ⟨bd, 0, 0⟩ 1 = 1 /\ H = (zAW size 16 (rdS ⟨bd, 0, 0⟩ 1) []).2 /\ ok = decide (zCI (zAW size 16 (rdS ⟨bd, 0, 0⟩ 1) []).1.r (zAW size 16 (rdS ⟨bd, 0, 0⟩ 1) []).1.e = 0 /\ H.length = 16)) ∨
     (rdV ⟨bd, 0, 0⟩ 1 ≠ 1 /\ H = [] /\ ok = decide (zCI (rdS ⟨bd, 0, 0⟩ 1).r (rdS ⟨bd, 0, 0⟩ 1).e = 0 /\ rdV ⟨bd, 0, 0⟩ 1 = 0))) -> RHP t size n H ok from fun H ok h => by
        rw [<- hrs'] at h
        exact .inr ⟨⟨hok, hk2⟩, hn.symm, h⟩)
      obtain ⟨x2, hx2⟩ : ∃ x, x = x1.alloc (Obj.cells #[.int .i64 2, .int .i64 n, .string bd] 227) := ⟨_, rfl⟩
      have hb2 : Below x1.heap.size x1 x2 := by rw [hx2]; exact (Below.refl _ x1).alloc (Nat.le_refl _) _
      have BP2 : Blk x2 x1.heap.size #[.int .i64 2, .int .i64 n, .string bd] 227 := by rw [hx2]; exact Blk.new x1 _ _
      have HB2 := uB (And.intro ((uA HB1).1.trans (hb2.mono (uA HB1).1.size)) (And.intro ((uA HB1).2.1.below hb2 (uA HB1).2.1.lt) (And.intro ((uA HB1).2.2.below hb2 (uA HB1).2.2.lt) BP2)))
      have HCH := uB (fun W => zBD n W)
      have HNR := uB (fun W => zB8 bd W)
      have HRS := uB hrs
      clear hk2 hn hbd hrs' hb2 BP2 hok hfit hrs
      go_wp2_with fail
      rw [<- hx2]
      replace hx2 := uB hx2
      refine (uA HCH _).mono ?_
      rintro e x3 ⟨rfl, hb3⟩
      obtain ⟨x4, hx4⟩ : ∃ x, x = x3.alloc (Obj.cells #[.int .u32 n, .slice none 0 0] 151) := ⟨_, rfl⟩
      have hb4 : Below x2.heap.size x2 x4 := by rw [hx4]; exact hb3.alloc hb3.size _
      have BH4 : Blk x4 x3.heap.size #[.int .u32 n, .slice none 0 0] 151 := by rw [hx4]; exact Blk.new x3 _ _
      have HB4 := uB (And.intro ((uA HB2).1.trans (hb4.mono (uA HB2).1.size)) (And.intro ((uA HB2).2.1.below hb4 (uA HB2).2.1.lt) (And.intro ((uA HB2).2.2.1.below hb4 (uA HB2).2.2.1.lt) (And.intro ((uA HB2).2.2.2.below hb4 (uA HB2).2.2.2.lt) BH4))))
      have hgh : w.heap.size < x3.heap.size := by have := (uA HB2).2.1.lt; have := hb3.size; omega
      have cp2 : x4.cell? ⟨x1.heap.size, 2, none⟩ = some (.string bd) := (uA HB4).2.2.2.1.cell 2
      have hlp : x1.heap.size < x3.heap.size := by have := (uA HB2).2.2.2.lt; have := hb3.size; omega
      have hnp : x1.heap.size ≠ x3.heap.size := by omega
      have cp2' : x3.cell? ⟨x1.heap.size, 2, none⟩ = some (.string bd) := ((uA HB2).2.2.2.below hb3 (uA HB2).2.2.2.lt).cell 2
      clear hb3 hb4 BH4 HCH HB2
      go_wp2_with fail
      rw [<- hx4]
      replace hx4 := uB hx4
      obtain ⟨gh, hgh2⟩ : ∃ g, x3.heap.size = g := ⟨_, rfl⟩
      rw [hgh2] at HB4 hgh ⊢
      clear hgh2 hlp cp2' hnp
      refine (uA HNR _).mono ?_
      rintro e x5 ⟨rfl, hR5, hb5, hz5⟩
      have HR5 := uB (show Rds x5 x4.heap.size ⟨bd, 0, 0⟩ from hR5)
      have HB5 := uB (And.intro ((uA HB4).1.trans (hb5.mono (uA HB4).1.size)) (And.intro ((uA HB4).2.1.below hb5 (uA HB4).2.1.lt) (And.intro ((uA HB4).2.2.1.below hb5 (uA HB4).2.2.1.lt) ((uA HB4).2.2.2.2.below hb5 (uA HB4).2.2.2.2.lt))))
      have hrbl : gh < x4.heap.size := (uA HB4).2.2.2.2.lt
      obtain ⟨rb, hrb⟩ : ∃ b, x4.heap.size = b := ⟨_, rfl⟩
      rw [hrb] at HR5 hrbl ⊢
      have HNC := uB (rnum x5 rb ⟨bd, 0, 0⟩ (uA HR5) (uA HB5).2.2.1 (uA HRS) 1)
      have HRN := uB ((uA HR5).ne (uA HB5).2.2.1)
      clear hR5 hb5 hz5 hrb HNR HB4 HR5 cp2
      go_wp2_with fail
      refine (uA HNC).mono ?_
      rintro e x6 ⟨rfl, hR6, hO6⟩
      have HR6 := uB (show Rds x6 rb (rdS ⟨bd, 0, 0⟩ 1) from hR6)
      have HO6 := uB hO6
      have hwrb : w.heap.size ≠ rb := by omega
      have hghrb : gh ≠ rb := by omega
      have hb6 : Below w.heap.size w x6 := (uA HB5).1.trans (hO6.below (uA HB5).1.size (fun k hk q => by have q : k = rb := q; omega))
      have B6 := (uA HB5).2.1.only hO6 hwrb
      have BH6 := (uA HB5).2.2.2.only hO6 hghrb
      have HB6 := uB (And.intro hb6 (And.intro B6 (And.intro ((uA HB5).2.2.1.only hO6 (fun q => uA HRN q.symm)) BH6)))
      have HK6 := uB (zNg ⟨bd, 0, 0⟩ 1 _ (uA HRS))
      obtain ⟨mk, hmk⟩ : ∃ m, rdV ⟨bd, 0, 0⟩ 1 = m := ⟨_, rfl⟩
      rw [hmk]
      rw [hmk] at HRHP
      clear hR6 hO6 hb6 B6 BH6 hmk HNC HB5 HO6
      obtain ⟨r6, hr6⟩ : ∃ r, rdS ⟨bd, 0, 0⟩ 1 = r := ⟨_, rfl⟩
      rw [hr6] at HR6 HRHP HK6
      clear hr6
      by_cases h1 : mk = 1
      · subst h1
        have HHO := uB (zF1 x6 rb r6 (uA HR6) (uA HB6).2.2.1 (uA HK6) size)
        go_wp2_with fail
        refine (uA HHO).mono ?_
        rintro e x7 ⟨v7, rfl, hrow7, hR7, hK7, hO7⟩
        have hb7 : Below w.heap.size w x7 := (uA HB6).1.trans (hO7.below (uA HB6).1.size (fun k hk q => by have q : k = rb := q; omega))
        have B7 := (uA HB6).2.1.only hO7 hwrb
        have BH7 := (uA HB6).2.2.2.only hO7 hghrb
        obtain ⟨R7, H7, hRH⟩ : ∃ R H, zAW size 16 r6 [] = (R, H) := ⟨_, _, rfl⟩
        rw [hRH] at hrow7 hR7 HRHP
        obtain ⟨p7, c7, rfl, _⟩ := zAy hrow7
        have hne7 : ∀ q, (Value.slice p7 H7.length c7).ownBlock = some q -> x6.heap.size <= q := fun q hq => (hrow7.lt q hq).1
        have HROW := uB (zCj hrow7 (uA HB6).1.size)
        have HN7 := uB hne7
        have hl6 : w.heap.size < x6.heap.size /\ gh < x6.heap.size := ⟨(uA HB6).2.1.lt, (uA HB6).2.2.2.lt⟩
        have HL6 := uB hl6
        have q1 : x7.cell? ⟨gh, 1, none⟩ = some (.slice none 0 0) := BH7.cell 1
        have f1 : x7.frozen? ⟨gh, 1, none⟩ = false := BH7.frozen 1
        have HB7 := uB (And.intro hb7 (And.intro B7 BH7))
        obtain ⟨x8, hx8⟩ : ∃ x, x = x7.setCell ⟨gh, 1, none⟩ (.slice p7 H7.length c7) := ⟨_, rfl⟩
        have HR8 := uB (show Rds x8 rb R7 from by rw [hx8]; exact Rds.only hR7 ((Only.refl (fun k => k = gh) x7).setCell _ _ (fun _ => rfl)) (fun q => hghrb q.symm))
        have HD8 := uB (zEM x8 rb R7.r R7.t R7.e (uA HR8))
        clear hrow7 hR7 hK7 hO7 hb7 B7 BH7 hRH HHO hne7 hl6
        generalize hHl : H7.length = m7 at *
        have HHL := uB hHl
        clear hHl
        go_wp2_with fail
        rw [<- hx8]
        refine (uA HD8).mono ?_
        rintro e x9 ⟨rfl, hb9⟩
        have BH8 : Blk x8 gh #[.int .u32 n, .slice p7 m7 c7] 151 := by rw [hx8]; exact (uA HB7).2.2.set 1 _
        have B8 : Blk x8 w.heap.size #[.int .u32 0, .slice none 0 0] 151 := by rw [hx8]; exact (uA HB7).2.1.other _ _ (by show gh ≠ w.heap.size; omega)
        have BH9 := BH8.below hb9 BH8.lt
        have B9 := B8.below hb9 B8.lt
        have hb8 : Below w.heap.size w x8 := by rw [hx8]; exact (uA HB7).1.setCell (by show w.heap.size <= gh; omega) _
        have hrow9 : x9.ownsRow w.heap.size 3 1 (.slice p7 m7 c7) m7 (H7.map (Value.int .i64)) := by
          have h8 : x8.ownsRow w.heap.size 3 1 (.slice p7 m7 c7) m7 (H7.map (Value.int .i64)) := by
            rw [hx8]
            exact zAe (uA HROW) _ _ (fun q => by have h1 : x6.heap.size <= gh := uA HN7 _ q; have := (uA HL6).2; omega)
          exact zAh h8 (Only.of_below (P := fun _ => False) hb9) (fun _ _ q => q)
        have c0 : x9.cell? ⟨gh, 0, none⟩ = some (.int .u32 n) := BH9.cell 0
        have c1 : x9.cell? ⟨gh, 1, none⟩ = some (.slice p7 m7 c7) := BH9.cell 1
        have d0 : x9.cell? ⟨w.heap.size, 0, none⟩ = some (.int .u32 0) := B9.cell 0
        have d1 : x9.cell? ⟨w.heap.size, 1, none⟩ = some (.slice none 0 0) := B9.cell 1
        have g0 := B9.frozen 0
        have g1 := B9.frozen 1
        have HF := uB (And.intro (hb8.trans (hb9.mono hb8.size)) (And.intro B9 hrow9))
        replace hx8 := uB hx8
        obtain ⟨D, hD⟩ : ∃ D, zCI R7.r R7.e = D := ⟨_, rfl⟩
        rw [hD] at HRHP ⊢
        clear hb9 BH8 B8 BH9 B9 hb8 hrow9 HD8 HR8 q1 f1 hD
        have hlast : ∀ ok, ok = decide (D = 0 /\ m7 = 16) -> RHP t size n H7 ok := fun ok hq => uA HRHP H7 ok (.inl ⟨by first | rfl | trivial, rfl, by rw [uA HHL]; exact hq⟩)
        have HLS := uB hlast
        have hne0 : gh ≠ w.heap.size := by omega
        clear hlast HRHP
        by_cases hD0 : D = 0
        · subst hD0
          by_cases hw : m7 = 16
          · subst hw
            go_wp2
            have B := ((uA HF).2.1.set 0 (.int .u32 n)).set 1 (.slice p7 16 c7)
            have hld := zAK 151 _ B Tryz.underlying151 rfl (by kernel_rfl)
            refine bodyPost_ret (v := .tuple #[.agg #[.int .u32 n, .slice p7 16 c7], .bool true]) (zAu rfl _ _ _ ⟨w.heap.size, 0, none⟩ rfl _ hld _ rfl) rfl ?_
            have hPF : zDu t size w (.returned (.tuple #[.agg #[.int .u32 n, .slice p7 16 c7], .bool true])) ((x9.setCell ⟨w.heap.size, 0, none⟩ (.int .u32 n)).setCell ⟨w.heap.size, 1, none⟩ (.slice p7 16 c7)) := by
              have hl := uA HHL
              refine ⟨p7, c7, H7, n, true, by rw [hl], uA HLS true (by simp), ?_, ((uA HF).1.setCell (Nat.le_refl _) _).setCell (Nat.le_refl _) _⟩
              rw [hl]
              exact zAe (zAe (uA HF).2.2 _ _ (fun q => by have h1 : x6.heap.size <= w.heap.size := uA HN7 _ q; have := (uA HL6).1; omega)) _ _ (fun q => by have h1 : x6.heap.size <= w.heap.size := uA HN7 _ q; have := (uA HL6).1; omega)
            exact hPF
          · have hwb : ((m7 : Int) == 16) = false := by simp; omega
            go_wp2
            have B := ((uA HF).2.1.set 0 (.int .u32 n)).set 1 (.slice p7 m7 c7)
            have hld := zAK 151 _ B Tryz.underlying151 rfl (by kernel_rfl)
            refine bodyPost_ret (v := .tuple #[.agg #[.int .u32 n, .slice p7 m7 c7], .bool false]) (zAu rfl _ _ _ ⟨w.heap.size, 0, none⟩ rfl _ hld _ rfl) rfl ?_
            have hPF : zDu t size w (.returned (.tuple #[.agg #[.int .u32 n, .slice p7 m7 c7], .bool false])) ((x9.setCell ⟨w.heap.size, 0, none⟩ (.int .u32 n)).setCell ⟨w.heap.size, 1, none⟩ (.slice p7 m7 c7)) := by
              have hl := uA HHL
              refine ⟨p7, c7, H7, n, false, by rw [hl], uA HLS false (by simp [hw]), ?_, ((uA HF).1.setCell (Nat.le_refl _) _).setCell (Nat.le_refl _) _⟩
              rw [hl]
              exact zAe (zAe (uA HF).2.2 _ _ (fun q => by have h1 : x6.heap.size <= w.heap.size := uA HN7 _ q; have := (uA HL6).1; omega)) _ _ (fun q => by have h1 : x6.heap.size <= w.heap.size := uA HN7 _ q; have := (uA HL6).1; omega)
            exact hPF
        · have hDb : (D == 0) = false := by simpa using hD0
          by_cases hw : m7 = 16
          · subst hw
            go_wp2
            have B := ((uA HF).2.1.set 0 (.int .u32 n)).set 1 (.slice p7 16 c7)
            have hld := zAK 151 _ B Tryz.underlying151 rfl (by kernel_rfl)
            refine bodyPost_ret (v := .tuple #[.agg #[.int .u32 n, .slice p7 16 c7], .bool false]) (zAu rfl _ _ _ ⟨w.heap.size, 0, none⟩ rfl _ hld _ rfl) rfl ?_
            have hPF : zDu t size w (.returned (.tuple #[.agg #[.int .u32 n, .slice p7 16 c7], .bool false])) ((x9.setCell ⟨w.heap.size, 0, none⟩ (.int .u32 n)).setCell ⟨w.heap.size, 1, none⟩ (.slice p7 16 c7)) := by
              have hl := uA HHL
              refine ⟨p7, c7, H7, n, false, by rw [hl], uA HLS false (by simp [hD0]), ?_, ((uA HF).1.setCell (Nat.le_refl _) _).setCell (Nat.le_refl _) _⟩
              rw [hl]
              exact zAe (zAe (uA HF).2.2 _ _ (fun q => by have h1 : x6.heap.size <= w.heap.size := uA HN7 _ q; have := (uA HL6).1; omega)) _ _ (fun q => by have h1 : x6.heap.size <= w.heap.size := uA HN7 _ q; have := (uA HL6).1; omega)
            exact hPF
          · have hwb : ((m7 : Int) == 16) = false := by simp; omega
            go_wp2
            have B := ((uA HF).2.1.set 0 (.int .u32 n)).set 1 (.slice p7 m7 c7)
            have hld := zAK 151 _ B Tryz.underlying151 rfl (by kernel_rfl)
            refine bodyPost_ret (v := .tuple #[.agg #[.int .u32 n, .slice p7 m7 c7], .bool false]) (zAu rfl _ _ _ ⟨w.heap.size, 0, none⟩ rfl _ hld _ rfl) rfl ?_
            have hPF : zDu t size w (.returned (.tuple #[.agg #[.int .u32 n, .slice p7 m7 c7], .bool false])) ((x9.setCell ⟨w.heap.size, 0, none⟩ (.int .u32 n)).setCell ⟨w.heap.size, 1, none⟩ (.slice p7 m7 c7)) := by
              have hl := uA HHL
              refine ⟨p7, c7, H7, n, false, by rw [hl], uA HLS false (by simp [hD0]), ?_, ((uA HF).1.setCell (Nat.le_refl _) _).setCell (Nat.le_refl _) _⟩
              rw [hl]
              exact zAe (zAe (uA HF).2.2 _ _ (fun q => by have h1 : x6.heap.size <= w.heap.size := uA HN7 _ q; have := (uA HL6).1; omega)) _ _ (fun q => by have h1 : x6.heap.size <= w.heap.size := uA HN7 _ q; have := (uA HL6).1; omega)
            exact hPF
      · have h1b : (mk == 1) = false := by simpa using h1
        have HD8 := uB (zEM x6 rb r6.r r6.t r6.e (uA HR6))
        go_wp2_with fail
        refine (uA HD8).mono ?_
        rintro e x9 ⟨rfl, hb9⟩
        have BH9 := (uA HB6).2.2.2.below hb9 (uA HB6).2.2.2.lt
        have B9 := (uA HB6).2.1.below hb9 (uA HB6).2.1.lt
        have c0 : x9.cell? ⟨gh, 0, none⟩ = some (.int .u32 n) := BH9.cell 0
        have c1 : x9.cell? ⟨gh, 1, none⟩ = some (.slice none 0 0) := BH9.cell 1
        have d0 : x9.cell? ⟨w.heap.size, 0, none⟩ = some (.int .u32 0) := B9.cell 0
        have d1 : x9.cell? ⟨w.heap.size, 1, none⟩ = some (.slice none 0 0) := B9.cell 1
        have g0 := B9.frozen 0
        have g1 := B9.frozen 1
        have HF := uB (And.intro ((uA HB6).1.trans (hb9.mono (uA HB6).1.size)) (And.intro B9 trivial))
        obtain ⟨D, hD⟩ : ∃ D, zCI r6.r r6.e = D := ⟨_, rfl⟩
        rw [hD] at HRHP ⊢
        clear hb9 BH9 B9 HD8 hD
        have hlast : ∀ ok, ok = decide (D = 0 /\ mk = 0) -> RHP t size n [] ok := fun ok hq => uA HRHP [] ok (.inr ⟨h1, rfl, hq⟩)
        have HLS := uB hlast
        have hne0 : gh ≠ w.heap.size := by omega
        clear hlast HRHP
        by_cases hD0 : D = 0
        · subst hD0
          by_cases hw : mk = 0
          · subst hw
            go_wp2
            have B := ((uA HF).2.1.set 0 (.int .u32 n)).set 1 (.slice none 0 0)
            have hld := zAK 151 _ B Tryz.underlying151 rfl (by kernel_rfl)
            refine bodyPost_ret (v := .tuple #[.agg #[.int .u32 n, .slice none 0 0], .bool true]) (zAu rfl _ _ _ ⟨w.heap.size, 0, none⟩ rfl _ hld _ rfl) rfl ?_
            have hPF : zDu t size w (.returned (.tuple #[.agg #[.int .u32 n, .slice none 0 0], .bool true])) ((x9.setCell ⟨w.heap.size, 0, none⟩ (.int .u32 n)).setCell ⟨w.heap.size, 1, none⟩ (.slice none 0 0)) := ⟨none, 0, [], n, true, rfl, uA HLS true (by simp), zFr _ _, (by refine ((uA HF).1.setCell ?_ _).setCell ?_ _ <;> exact Nat.le_refl _)⟩
            exact hPF
          · have hwb : (mk == 0) = false := by simpa using hw
            go_wp2
            have B := ((uA HF).2.1.set 0 (.int .u32 n)).set 1 (.slice none 0 0)
            have hld := zAK 151 _ B Tryz.underlying151 rfl (by kernel_rfl)
            refine bodyPost_ret (v := .tuple #[.agg #[.int .u32 n, .slice none 0 0], .bool false]) (zAu rfl _ _ _ ⟨w.heap.size, 0, none⟩ rfl _ hld _ rfl) rfl ?_
            have hPF : zDu t size w (.returned (.tuple #[.agg #[.int .u32 n, .slice none 0 0], .bool false])) ((x9.setCell ⟨w.heap.size, 0, none⟩ (.int .u32 n)).setCell ⟨w.heap.size, 1, none⟩ (.slice none 0 0)) := ⟨none, 0, [], n, false, rfl, uA HLS false (by simp [hw]), zFr _ _, (by refine ((uA HF).1.setCell ?_ _).setCell ?_ _ <;> exact Nat.le_refl _)⟩
            exact hPF
        · have hDb : (D == 0) = false := by simpa using hD0
          by_cases hw : mk = 0
          · subst hw
            go_wp2
            have B := ((uA HF).2.1.set 0 (.int .u32 n)).set 1 (.slice none 0 0)
            have hld := zAK 151 _ B Tryz.underlying151 rfl (by kernel_rfl)
            refine bodyPost_ret (v := .tuple #[.agg #[.int .u32 n, .slice none 0 0], .bool false]) (zAu rfl _ _ _ ⟨w.heap.size, 0, none⟩ rfl _ hld _ rfl) rfl ?_
            have hPF : zDu t size w (.returned (.tuple #[.agg #[.int .u32 n, .slice none 0 0], .bool false])) ((x9.setCell ⟨w.heap.size, 0, none⟩ (.int .u32 n)).setCell ⟨w.heap.size, 1, none⟩ (.slice none 0 0)) := ⟨none, 0, [], n, false, rfl, uA HLS false (by simp [hD0]), zFr _ _, (by refine ((uA HF).1.setCell ?_ _).setCell ?_ _ <;> exact Nat.le_refl _)⟩
            exact hPF
          · have hwb : (mk == 0) = false := by simpa using hw
            go_wp2
            have B := ((uA HF).2.1.set 0 (.int .u32 n)).set 1 (.slice none 0 0)
            have hld := zAK 151 _ B Tryz.underlying151 rfl (by kernel_rfl)
            refine bodyPost_ret (v := .tuple #[.agg #[.int .u32 n, .slice none 0 0], .bool false]) (zAu rfl _ _ _ ⟨w.heap.size, 0, none⟩ rfl _ hld _ rfl) rfl ?_
            have hPF : zDu t size w (.returned (.tuple #[.agg #[.int .u32 n, .slice none 0 0], .bool false])) ((x9.setCell ⟨w.heap.size, 0, none⟩ (.int .u32 n)).setCell ⟨w.heap.size, 1, none⟩ (.slice none 0 0)) := ⟨none, 0, [], n, false, rfl, uA HLS false (by simp [hD0]), zFr _ _, (by refine ((uA HF).1.setCell ?_ _).setCell ?_ _ <;> exact Nat.le_refl _)⟩
            exact hPF
    · have hk2b : (pkd t != 2) = true := by simp [hk2]
      have HRH := uB (show RHP t size 0 [] false from .inl ⟨fun q => hk2 q.2, rfl, rfl, rfl⟩)
      obtain ⟨kd, hkd⟩ : ∃ k, pkd t = k := ⟨_, rfl⟩
      rw [hkd] at hk2b ⊢
      clear hkd hk2 hok hfit hrs
      have B1 := (uA HB1).2.1
      have d0 : x1.cell? ⟨w.heap.size, 0, none⟩ = some (.int .u32 0) := B1.cell 0
      have d1 : x1.cell? ⟨w.heap.size, 1, none⟩ = some (.slice none 0 0) := B1.cell 1
      have g0 := B1.frozen 0
      have g1 := B1.frozen 1
      have hlt1 : w.heap.size < x1.heap.size := B1.lt
      have hne1 : w.heap.size ≠ x1.heap.size := by omega
      clear B1
      go_wp2
      have B := (((uA HB1).2.1.set 0 (.int .u32 0)).set 1 (.slice none 0 0)).alloc (Obj.cells #[.int .i64 kd, .int .i64 (pnm t), .string (pbd t)] 227)
      have hld := zAK 151 _ B Tryz.underlying151 rfl (by kernel_rfl)
      refine bodyPost_ret (v := .tuple #[.agg #[.int .u32 0, .slice none 0 0], .bool false]) (zAu rfl _ _ _ ⟨w.heap.size, 0, none⟩ rfl _ hld _ rfl) rfl ⟨none, 0, [], 0, false, rfl, uA HRH, zFr _ _, ?_⟩
      exact (((uA HB1).1.setCell (Nat.le_refl _) _).setCell (Nat.le_refl _) _).alloc (by have := (uA HB1).1.size; simpa using this) _
  · have HRH := uB (show RHP t size 0 [] false from .inl ⟨fun q => hok q.1, rfl, rfl, rfl⟩)
    clear hok
    have B1 := (uA HB1).2.1
    have d0 : x1.cell? ⟨w.heap.size, 0, none⟩ = some (.int .u32 0) := B1.cell 0
    have d1 : x1.cell? ⟨w.heap.size, 1, none⟩ = some (.slice none 0 0) := B1.cell 1
    have g0 := B1.frozen 0
    have g1 := B1.frozen 1
    have hlt1 : w.heap.size < x1.heap.size := B1.lt
    have hne1 : w.heap.size ≠ x1.heap.size := by omega
    clear B1
    go_wp2
    have B := (((uA HB1).2.1.set 0 (.int .u32 0)).set 1 (.slice none 0 0)).alloc (Obj.cells #[.int .i64 0, .int .i64 0, .string ⟨#[]⟩] 227)
    have hld := zAK 151 _ B Tryz.underlying151 rfl (by kernel_rfl)
    refine bodyPost_ret (v := .tuple #[.agg #[.int .u32 0, .slice none 0 0], .bool false]) (zAu rfl _ _ _ ⟨w.heap.size, 0, none⟩ rfl _ hld _ rfl) rfl ⟨none, 0, [], 0, false, rfl, uA HRH, zFr _ _, ?_⟩
    exact (((uA HB1).1.setCell (Nat.le_refl _) _).setCell (Nat.le_refl _) _).alloc (by have := (uA HB1).1.size; simpa using this) _
end
section
open Go.RowKit
theorem zJx (w : World) (base b : Nat) (v : DV) (s : DSt) (h : Dk w base b v s) (hb : base <= w.heap.size) (hS : Sane s) (hp : s.pend.length <= 1000000) (ha : s.acts.length <= 100000000) :
  Calls Tryz.prog 37 #[.pointer (some ⟨b, 0, none⟩)] w fun e w' => e = .returned (.int .i64 (layR s [(1, zAq 0 [])]).1) /\ DPost base b v (layR s [(1, zAq 0 [])]).2 w w' := by
 have HCH := uB (zBD 0 w)
 have HWC := uB (fun (W : World) => zCm 0 (by decide) none 0 W)
 have HD := uB h
 have HS := uB hS
 have hlt : ∀ k, Fd b v k -> k < w.heap.size := fun k hk => (h.fd k hk).2
 have HLT := uB hlt
 obtain ⟨hc, hhc⟩ : ∃ x, zAq 0 [] = x := ⟨_, rfl⟩
 rw [hhc] at HWC ⊢
 clear h hS hlt hhc
 go_enter Tryz.func37, Tryz.ntmps37
 go_wp2_with fail
 refine (uA HCH).mono ?_
 rintro e x1 ⟨rfl, hb1⟩
 have HB1 := uB hb1
 clear hb1 HCH
 go_wp2_with fail
 refine (uA HWC _).mono ?_
 rintro e x2 ⟨rfl, hb2⟩
 have HB2 := uB ((uA HB1).trans (hb2.mono (uA HB1).size))
 clear hb2 HWC HB1
 obtain ⟨x3, hx3⟩ : ∃ x, x = x2.alloc (Obj.cells #[.int .i64 1, .string hc] 112) := ⟨_, rfl⟩
 have hB3 : Blk x3 x2.heap.size #[.int .i64 1, .string hc] 112 := by rw [hx3]; exact Blk.new x2 _ _
 have hb3 : Below w.heap.size w x3 := by rw [hx3]; exact (uA HB2).alloc (uA HB2).size _
 have HB3 := uB hb3
 have HLY := uB (zB4 x3 base b v s ((uA HD).below hb3) (Nat.le_trans hb hb3.size) (uA HS) (some ⟨x2.heap.size, 0, none⟩) 1 [(1, hc)] 1 rfl (zBS (l := [(1, hc)]) hB3) (fun g o e q => by cases e; have := uA HLT _ q; have := (uA HB2).size; omega) (by show _ + 1 <= _; omega) (by show _ + 1 <= _; omega))
 clear hB3 hb3
 go_wp2_with fail
 rw [<- hx3]
 replace hx3 := uB hx3
 refine (uA HLY).mono ?_
 rintro e x4 ⟨rfl, hP4⟩
 have HP4 := uB (DPost.belowL (uA HB3) hP4)
 clear hP4 HLY
 go_wp2
 go_ret
 exact ⟨rfl, uA HP4⟩
def zBz (s : DSt) (H : List Int) : List Wr1 := (List.range H.length).map fun i => (H.getD i 0, zBb s ((2 + i : Nat) : Int))
theorem zG2 (s : DSt) (H : List Int) : (zBz s H).length = H.length := by simp [zBz]
theorem zH8 (s : DSt) (H : List Int) (k : Nat) (hk : k < H.length) : (zBz s H).getD k wr0 = (H.getD k 0, zBb s ((2 + k : Nat) : Int)) := by simp [zBz, List.getD_eq_getElem?_getD, hk]
def zCb (s : DSt) (n : Nat) (H : List Int) : Int × DSt := if (layR s (zBz s H)).1 = 0 then layR (layR s (zBz s H)).2 [(1, zAq n [])] else layR s (zBz s H)
theorem zMP (w : World) (base b : Nat) (v : DV) (s : DSt) (h : Dk w base b v s) (hb : base <= w.heap.size) (hS : Sane s) (hp : s.pend.length <= 1000000) (ha : s.acts.length <= 100000000) (n : Nat) (hn : n < 4294967296) (p : Option Addr) (c : Nat) (H : List Int) (m : Nat) (hm : m = H.length) (hH : Inl w p H) (h16 : m <= 16) :
  Calls Tryz.prog 203 #[.pointer (some ⟨b, 0, none⟩), .agg #[.int .u32 (n : Int), .slice p m c]] w fun e w' => e = .returned (.int .i64 (zCb s n H).1) /\ DPost base b v (zCb s n H).2 w w' := by
 have hlt : ∀ k, Fd b v k -> k < w.heap.size := fun k hk => (h.fd k hk).2
 obtain ⟨x0, hx0⟩ : ∃ x, x = w.alloc (Obj.cells #[.int .u32 (n : Int), .slice p m c] 151) := ⟨_, rfl⟩
 have hs0 : x0.heap.size = w.heap.size + 1 := by rw [hx0]; simp
 have hb0 : Below w.heap.size w x0 := by rw [hx0]; exact (Below.refl _ w).alloc (Nat.le_refl _) _
 have B0 : Blk x0 w.heap.size #[.int .u32 (n : Int), .slice p m c] 151 := by rw [hx0]; exact Blk.new w _ _
 have hmk : ∀ W : World, (Instr.makeSlice 63 (.int .i64 (m : Int)) (.int .i64 (m : Int))).run Tryz.prog W = .ok (.slice (some ⟨W.heap.size, 0, none⟩) m m) (W.alloc (.cells (wrv (List.replicate m wr0)).toArray 112)) := fun W => zDW m (by omega) W
 have hrl : (zBz s H).length = m := by rw [zG2, hm]
 have X0 := uB (show ReI x0 (zBz s H) 0 (x0.alloc (.cells (wrv (List.replicate m wr0)).toArray 112)) from ⟨by simpa [prtW, hrl] using Blk.new x0 112 (wrv (List.replicate m wr0)).toArray, (Below.refl _ _).alloc (Nat.le_refl _) _⟩)
 obtain ⟨zc, hzc⟩ : ∃ z, (wrv (List.replicate m wr0)).toArray = z := ⟨_, rfl⟩
 rw [hzc] at X0
 have hmk0 := hmk x0
 have hmkw := hmk (w.alloc (Obj.cells #[.int .u32 (n : Int), .slice p m c] 151))
 rw [hzc] at hmkw
 have HD := uB h
 have HS := uB hS
 have HLT := uB hlt
 have HH := uB hH
 have HM := uB hm
 have HRL := uB hrl
 have HX := uB (And.intro hs0 (And.intro hb0 B0))
 have HRE := uB (fun (W : World) (hW : Below w.heap.size w W) (i : Int) => zGd W base b v s (h.below hW) hS.same i)
 clear h hS hlt hH hm hrl hs0 hb0 B0 hmk hmk0 hzc
 go_enter Tryz.func203, Tryz.ntmps203
 go_wp2
 have HIW := uB (show ∀ W, Below w.heap.size w W -> ∀ j, j < m -> ∃ lb lo, p = some ⟨lb, lo, none⟩ /\ W.cell? ⟨lb, lo + j, none⟩ = some (.int .i64 (H.getD j 0)) from fun W hW j hj => by
  rcases uA HH with q | ⟨lb, lo, e1, e2, e3⟩
  ·rw [uA HM, q] at hj; cases hj
  ·exact ⟨lb, lo, e1, (hW.cell (p := ⟨lb, lo + j, none⟩) e2).trans (e3 j (by rw [<- uA HM]; exact hj))⟩)
 have hz0 := (uA HX).1
 rw [<- hx0]
 rw [<- hz0]
 replace hx0 := uB hx0
 have HZ0 := uB hz0
 clear hz0 hmkw
 go_loopw [18] (fun i wr => ∃ k : Nat, k <= m /\ i = .int .i64 (k : Int) /\ ReI x0 (zBz s H) k wr) (fun i _ => m - (intOf i).toNat)
 case atStart => exact ⟨0, by omega, rfl, uA X0⟩
 case round =>
  obtain ⟨k, hk, rfl, hI⟩ := hrel
  obtain ⟨wo, rfl⟩ : ∃ wo, wo = wr := ⟨_, rfl⟩
  have XI := uB hI
  have hbw : Below w.heap.size w wo := (uA HX).2.1.trans (hI.2.mono (uA HX).2.1.size)
  have HBW := uB hbw
  clear hI X0
  by_cases hkl : k < m
  ·obtain ⟨lb, lo, rfl, ch⟩ := uA HIW wo hbw k hkl
   have hse := zH8 s H k (by rw [<- uA HM]; exact hkl)
   obtain ⟨z, hz⟩ : ∃ z, H.getD k 0 = z := ⟨_, rfl⟩
   rw [hz] at ch hse
   have HRA := uB (zDY k (by omega) wo)
   have HRD := uB (uA HRE wo hbw ((2 + k : Nat) : Int))
   obtain ⟨t, ht⟩ : ∃ t, zBb s ((2 + k : Nat) : Int) = t := ⟨_, rfl⟩
   rw [ht] at HRD hse
   obtain ⟨er, her⟩ : ∃ e, zBc s ((2 + k : Nat) : Int) = e := ⟨_, rfl⟩
   rw [her] at HRD
   obtain ⟨ri, hri⟩ : ∃ r, ((2 + k : Nat) : Int) = r := ⟨_, rfl⟩
   rw [hri] at HRA HRD
   have hol : k < (prtW (zBz s H) k).length := by rw [zF0 _ _ (by rw [uA HRL]; exact hk), uA HRL]; exact hkl
   obtain ⟨w0, w1⟩ := zDX _ k hol
   have d0 : wo.cell? ⟨x0.heap.size, k * 2, none⟩ = some (.int .i64 ((prtW (zBz s H) k).getD k wr0).1) := by rw [(uA XI).1.cell]; simpa using w0
   have d1 : wo.cell? ⟨x0.heap.size, k * 2 + 1, none⟩ = some (.string ((prtW (zBz s H) k).getD k wr0).2) := by rw [(uA XI).1.cell]; simpa using w1
   have f0 := (uA XI).1.frozen (k * 2)
   have f1 := (uA XI).1.frozen (k * 2 + 1)
   have XR := uB ((uA XI).step (by rw [uA HRL]; exact hkl) (Below.refl _ wo))
   rw [hse] at XR
   generalize (prtW (zBz s H) k).getD k wr0 = old at *
   obtain ⟨oz, ot⟩ := old
   have i0 : 0 <= (k : Int) := by omega
   have i1 : (k : Int) < (m : Int) := by omega
   clear hse hz ht her hri w0 w1 hol hbw XI
   go_wp2_with fail
   refine (uA HRA).mono ?_
   rintro e y1 ⟨rfl, rfl⟩
   go_wp2_with fail
   refine (uA HRD).mono ?_
   rintro e y2 ⟨rfl, rfl⟩
   go_wp2
   go_roundw
   case rel => exact ⟨k + 1, by omega, by go_num, uA XR⟩
   case measure => simp [intOf]; omega
  ·have hk' : k = m := by omega
   subst hk'
   have hBR : Blk wo x0.heap.size (wrv (zBz s H)).toArray 112 := by
    have := (uA XI).1
    rw [prtW, List.take_of_length_le (by rw [uA HRL]; exact Nat.le_refl _), uA HRL] at this
    simpa using this
   have HBR := uB hBR
   have hff : ∀ g o, (some ⟨x0.heap.size, 0, none⟩ : Option Addr) = some ⟨g, o, none⟩ -> ¬ Fd b v g := fun g o e q => by cases e; have := uA HLT _ q; have := uA HZ0; omega
   have HLY := uB (zB4 wo base b v s ((uA HD).below hbw) (Nat.le_trans hb hbw.size) (uA HS) (some ⟨x0.heap.size, 0, none⟩) k (zBz s H) k (uA HRL).symm (zBS hBR) hff (by rw [uA HRL]; omega) (by rw [uA HRL]; omega))
   have B0w := (uA HX).2.2.below (uA XI).2 (by have := uA HZ0; omega)
   have HB0 := uB B0w
   clear hBR hff hbw hkl B0w
   go_wp2_with fail
   refine (uA HLY).mono ?_
   rintro e y1 ⟨rfl, hP1⟩
   have HP1 := uB (DPost.belowL (uA HBW) hP1)
   have hO1 := hP1.onlyW
   have c0 : y1.cell? ⟨w.heap.size, 0, none⟩ = some (.int .u32 (n : Int)) := by rw [((uA HB0).only hO1 (fun q => by have := uA HLT _ q; omega)).cell 0]; rfl
   clear hP1 hO1 HLY
   by_cases he : (layR s (zBz s H)).1 = 0
   ·have HRR := uB (show zCb s n H = layR (layR s (zBz s H)).2 [(1, zAq n [])] from by rw [zCb, if_pos he])
    have HSA := uB (zAX (zBz s H) s (uA HS))
    have hpe := zCg (zBz s H) s
    have hac := zCi (zBz s H) s
    rw [uA HRL] at hpe hac
    rw [he]
    generalize (layR s (zBz s H)).2 = S1 at *
    have HCH := uB (fun (W : World) => zBD (n : Int) W)
    have HWC := uB (fun (W : World) => zCm n hn none 0 W)
    obtain ⟨hc, hhc⟩ : ∃ x, zAq n [] = x := ⟨_, rfl⟩
    rw [hhc] at HWC HRR
    clear hhc he
    go_wp2_with fail
    refine (uA HCH _).mono ?_
    rintro e y2 ⟨rfl, hb2⟩
    have HB2 := uB hb2
    clear hb2 HCH c0
    go_wp2_with fail
    refine (uA HWC _).mono ?_
    rintro e y3 ⟨rfl, hb3⟩
    have HB3 := uB ((uA HB2).trans (hb3.mono (uA HB2).size))
    clear hb3 HWC HB2
    obtain ⟨y4, hy4⟩ : ∃ x, x = y3.alloc (Obj.cells #[.int .i64 1, .string hc] 112) := ⟨_, rfl⟩
    have hB4 : Blk y4 y3.heap.size #[.int .i64 1, .string hc] 112 := by rw [hy4]; exact Blk.new y3 _ _
    have hb4 : Below y1.heap.size y1 y4 := by rw [hy4]; exact (uA HB3).alloc (uA HB3).size _
    have HP4 := uB ((uA HP1).belowR hb4)
    obtain ⟨v4, j1, j2, k3⟩ := uA HP1
    have k1 := j1.below hb4
    have k2 : Only (Fd b v) w y4 := (uA HP4).onlyW
    have hf4 : ¬ Fd b v4 y3.heap.size := fun q => by have := (j1.fd _ q).2; have := (uA HB3).size; omega
    have HLY := uB (zB4 y4 base b v4 S1 k1 (Nat.le_trans hb k2.size) (uA HSA) (some ⟨y3.heap.size, 0, none⟩) 1 [(1, hc)] 1 rfl (zBS (l := [(1, hc)]) hB4) (fun g o e q => by cases e; exact hf4 q) (by show _ + 1 <= _; omega) (by show _ + 1 <= _; omega))
    have HK := uB (And.intro k2 k3)
    clear hB4 hb4 k1 k2 k3 hf4 j1 j2
    go_wp2_with fail
    rw [<- hy4]
    replace hy4 := uB hy4
    refine (uA HLY).mono ?_
    rintro e y5 ⟨rfl, hP5⟩
    have HP5 := uB (DPost.trans (uA HK).1 (uA HK).2 hP5)
    clear hP5 HLY HK
    go_wp2
    go_ret
    rw [uA HRR]
    exact ⟨rfl, uA HP5⟩
   ·have HRR := uB (show zCb s n H = layR s (zBz s H) from by rw [zCb, if_neg he])
    have hne : ((layR s (zBz s H)).1 != 0) = true := by simp [he]
    generalize hq1 : (layR s (zBz s H)).1 = E at *
    have HQ1 := uB hq1
    clear he hq1
    go_wp2
    go_ret
    rw [uA HRR, uA HQ1]
    exact ⟨rfl, uA HP1⟩
end
end Go.Proofs.YtdpnbemagiekoaaGreatDoor
