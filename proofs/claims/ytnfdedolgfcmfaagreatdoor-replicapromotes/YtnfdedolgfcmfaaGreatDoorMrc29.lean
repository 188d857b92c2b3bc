import Derived.Test.YtnfdedolgfcmfaaGreatDoorMrc25
import Derived.Test.YtnfdedolgfcmfaaGreatDoorMrc28
import Derived.BigQuiet
namespace Go.Proofs.YtnfdedolgfcmfaaGreatDoor
open Go.RowKit
set_option maxRecDepth 100000
set_option maxHeartbeats 4000000 in
theorem ystoreG_any (a l : List ByteArray) (q : Nat) (hq : l.length = q) (hq9 : q ≤ 100000) (hT : Sht l) (w : World) (B B2 c c2 q2 : Nat) (p p2 : Option Addr) (hS : SB w B p l) (hB : B ≤ w.heap.size) (hO : (p2 = none ∧ q2 = 0 ∧ c2 = 0) ∨ (q2 = q ∧ a.length = q ∧ SB w B2 p2 a ∧ B2 ≤ w.heap.size)) : Calls Tryz.prog 34 #[.slice p q c, .slice p2 q2 c2] w fun e w' => ∃ b, e = .returned (.pointer (some ⟨b, 0, none⟩)) ∧ w.heap.size ≤ b ∧ Sg w' b w.heap.size l ∧ Below w.heap.size w w' := by
  have hmk := ymake_s q (by omega) w
  have HS := hide (hS.mono hB)
  have HL := hide hq
  have HO := hide hO
  have HT := hide hT
  have HCL := hide (fun k (hk : k < q) W => yclone_any (l.getD k ⟨#[]⟩) (hT k (by rw [hq]; exact hk)) W)
  have HN0 := hide (show Blk (w.alloc (.cells (Array.replicate q (.string ⟨#[]⟩)) 9)) w.heap.size (stV l 0 q) 9 from by rw [stV_zero]; exact Blk.new _ _ _)
  have HB0 := hide (show Below w.heap.size w (w.alloc (.cells (Array.replicate q (.string ⟨#[]⟩)) 9)) from (Below.refl _ _).alloc (Nat.le_refl _) _)
  clear hS hq hO hT hB
  go_enter Tryz.func34, Tryz.ntmps34
  go_wp2
  clear hmk
  go_loopw [13] (fun i wr => ∃ k : Nat, k ≤ q ∧ i = .int .i64 (k : Int) ∧ Blk wr w.heap.size (stV l k q) 9 ∧ Below w.heap.size w wr) (fun i _ => q - (intOf i).toNat)
  case atStart => exact ⟨0, by omega, rfl, unhide HN0, unhide HB0⟩
  case round =>
  obtain ⟨k, hk, rfl, hN, hb⟩ := hrel
  by_cases hkq : k < q
  · have e1 : (k : Int) < (q : Int) := by omega
    obtain ⟨g1, o1, rfl, hlt1, hc1⟩ := (unhide HS).below hb k (by rw [unhide HL]; exact hkq)
    have HST := hide (stV_set l k q hkq)
    have hcl := unhide HCL k hkq
    obtain ⟨s, hse⟩ : ∃ z, l.getD k ⟨#[]⟩ = z := ⟨_, rfl⟩
    rw [hse] at hc1 hcl HST
    have HC := hide hcl
    have HX := hide (show ∀ y, Below wr.heap.size wr y → y.cell? ⟨w.heap.size, k, none⟩ = some (.string ⟨#[]⟩) ∧ y.frozen? ⟨w.heap.size, k, none⟩ = false ∧ Blk (y.setCell ⟨w.heap.size, k, none⟩ (.string s)) w.heap.size (stV l (k + 1) q) 9 ∧ Below w.heap.size w (y.setCell ⟨w.heap.size, k, none⟩ (.string s)) from fun y hy => by
      have q1 := hN.below hy hN.lt
      refine ⟨?_, q1.frozen k, ?_, ?_⟩
      · rw [q1.cell k, stV_get l k q k hkq, if_neg (by omega)]
      · have q2 := q1.set k (.string s)
        rw [unhide HST] at q2
        exact q2
      · exact (hb.trans (hy.mono hb.size)).setCell (show w.heap.size ≤ w.heap.size from Nat.le_refl _) _)
    rcases unhide HO with ⟨rfl, rfl, rfl⟩ | ⟨rfl, hal, hS2, hB2⟩
    · clear hse hcl hN hb HO
      go_wp2_with fail
      refine (unhide HC _).mono ?_
      rintro e y ⟨rfl, hy⟩
      obtain ⟨x1, x2, x3, x4⟩ := unhide HX y hy
      obtain ⟨z, hz⟩ : ∃ z, y.setCell ⟨w.heap.size, k, none⟩ (.string s) = z := ⟨_, rfl⟩
      rw [hz] at x3 x4
      have HN := hide (And.intro x3 x4)
      clear x3 x4 hy HX HC
      go_wp2
      go_roundw
      case rel => exact ⟨k + 1, by omega, by go_num, (unhide HN).1, (unhide HN).2⟩
      case measure => simp [intOf] <;> omega
    · obtain ⟨g2, o2, rfl, hlt2, hc2⟩ := (hS2.below (hb.mono hB2)) k (by rw [hal]; exact hkq)
      obtain ⟨t, hte⟩ : ∃ z, a.getD k ⟨#[]⟩ = z := ⟨_, rfl⟩
      rw [hte] at hc2
      by_cases hst : t = s
      · subst hst
        obtain ⟨x1, x2, x3, x4⟩ := unhide HX wr (Below.refl _ _)
        obtain ⟨z, hz⟩ : ∃ z, wr.setCell ⟨w.heap.size, k, none⟩ (.string t) = z := ⟨_, rfl⟩
        rw [hz] at x3 x4
        have HN := hide (And.intro x3 x4)
        clear x3 x4 hse hte hcl hN hb HO HX HC hal hS2 hB2
        go_wp2
        go_roundw
        case rel => exact ⟨k + 1, by omega, by go_num, (unhide HN).1, (unhide HN).2⟩
        case measure => simp [intOf] <;> omega
      · have hne := str_ne hst
        clear hse hte hst hcl hN hb HO hal hS2 hB2
        go_wp2_with fail
        refine (unhide HC _).mono ?_
        rintro e y ⟨rfl, hy⟩
        obtain ⟨x1, x2, x3, x4⟩ := unhide HX y hy
        obtain ⟨z, hz⟩ : ∃ z, y.setCell ⟨w.heap.size, k, none⟩ (.string s) = z := ⟨_, rfl⟩
        rw [hz] at x3 x4
        have HN := hide (And.intro x3 x4)
        clear x3 x4 hy HX HC
        go_wp2
        go_roundw
        case rel => exact ⟨k + 1, by omega, by go_num, (unhide HN).1, (unhide HN).2⟩
        case measure => simp [intOf] <;> omega
  · obtain rfl : k = q := by omega
    have e1 : ¬ (k : Int) < (k : Int) := by omega
    rw [stV_all l k (unhide HL)] at hN
    have HE := hide (show Sg (wr.alloc (.cells #[.slice (some ⟨w.heap.size, 0, none⟩) k k, .string ⟨#[]⟩] 90)) wr.heap.size w.heap.size l ∧ Below w.heap.size w (wr.alloc (.cells #[.slice (some ⟨w.heap.size, 0, none⟩) k k, .string ⟨#[]⟩] 90)) ∧ w.heap.size ≤ wr.heap.size from ⟨⟨⟨#[]⟩, by rw [unhide HL]; exact Blk.new _ _ _, hN.alloc _, .inl rfl⟩, hb.alloc hb.size _, hb.size⟩)
    clear hN hb
    go_wp2
    go_ret
    exact ⟨_, rfl, (unhide HE).2.2, (unhide HE).1, (unhide HE).2.1⟩
end Go.Proofs.YtnfdedolgfcmfaaGreatDoor

namespace Go.Proofs.YtnfdedolgfcmfaaGreatDoor
open Go.RowKit
set_option maxRecDepth 100000
theorem blA_PW {z N B : Nat} {l : Tx} {im : Int → List ByteArray} (h : PW z N B l im) (k : Int) (n : Nat) (r : ByteArray) : PW z N (blA N B l im k n r).2.1 (blA N B l im k n r).2.2 im := by
  unfold blA
  split
  · exact h
  · split
    · exact h
    · split
      · exact h
      · split
        · exact h.lost
        · rename_i hx
          split
          · exact h
          · refine h.known n ?_
            cases e : txAt l (n : Int) with
            | none => exact absurd e hx
            | some g => exact ⟨g, (at_some h.srt).1 e⟩
/-- is a text a word -/
def isWd (s : ByteArray) : Prop := s.size = 43 ∧ okR s = true ∧ rwB s = true
/-- what Confirm comes to: the number of notes, the error, the base, what is kept -/
noncomputable def cfA (N B : Nat) (l : Tx) (im : Int → List ByteArray) (s : ByteArray) : Int × Int × Nat × Tx := by
  classical exact if isWd s then (if (blA N B l im (rwK s) (rwN s).toNat (rwR s)).1 = 0 then ((ntsP (blA N B l im (rwK s) (rwN s).toNat (rwR s)).2.1 (blA N B l im (rwK s) (rwN s).toNat (rwR s)).2.2).length : Int) else 0, blA N B l im (rwK s) (rwN s).toNat (rwR s)) else (0, 221, B, l)
def CfQ (F : Nat → Prop) (w : World) (p mp z N : Nat) (l : Tx) (im : Int → List ByteArray) (A : Int × Int × Nat × Tx) (e : Ending) (w' : World) : Prop := e = .returned (.tuple #[.int .i64 A.1, .int .i64 A.2.1]) ∧ PrF F w' p mp z N A.2.2.1 A.2.2.2 im ∧ Only (fun q => q = p ∨ q = mp ∨ KPt l q) w w'
theorem yreadWord_any (s : ByteArray) (w : World) (hg : ETy w) : Calls Tryz.prog 46 #[.string s] w fun e w' => ∃ (k : Int) (n : Nat) (r : ByteArray) (b : Bool), e = .returned (.tuple #[.agg #[.int .i64 k, .int .i64 (n : Int), .string r], .bool b]) ∧ (b = true ↔ isWd s) ∧ (b = true → k = rwK s ∧ n = (rwN s).toNat ∧ r = rwR s) ∧ Below w.heap.size w w' := by
  by_cases h : s.size ≠ 43 ∨ okR s = false
  · refine (yreadWord_short s h w).mono ?_
    rintro e w' ⟨rfl, hb⟩
    refine ⟨0, 0, ⟨#[]⟩, false, rfl, ⟨fun q => absurd q (by decide), fun q => ?_⟩, fun q => absurd q (by decide), hb⟩
    rcases h with h | h
    · exact absurd q.1 h
    · rw [q.2.1] at h; cases h
  · have h1 : s.size = 43 := Decidable.byContradiction fun q => h (.inl q)
    have h2 : okR s = true := by
      cases e : okR s with
      | true => rfl
      | false => exact absurd (.inr e) h
    refine (yreadWord_full s h1 h2 w hg).mono ?_
    rintro e w' ⟨rfl, hb⟩
    cases e : rwB s with
    | false => exact ⟨0, 0, ⟨#[]⟩, false, rfl, ⟨fun q => absurd q (by decide), fun q => by rw [q.2.2] at e; cases e⟩, fun q => absurd q (by decide), hb⟩
    | true =>
      have h4 : (((rwN s).toNat : Nat) : Int) = rwN s := by
        have := (be_bound (nums (rw2 s)) (nums_bytes _) 4).1
        unfold rwN
        omega
      exact ⟨rwK s, (rwN s).toNat, rwR s, true, by rw [h4]; rfl, ⟨fun _ => ⟨h1, h2, e⟩, fun _ => rfl⟩, fun _ => ⟨rfl, rfl, rfl⟩, hb⟩
set_option maxHeartbeats 8000000 in
theorem pconfirm_any (F : Nat → Prop) (w : World) (p mp z N B : Nat) (l : Tx) (im : Int → List ByteArray) (hP : PrF F w p mp z N B l im) (hW : PW z N B l im) (hK : KTab w) (hE : ETy w) (s : ByteArray) :
    Calls Tryz.prog 20 #[.pointer (some ⟨p, 0, none⟩), .string s] w (CfQ F w p mp z N l im (cfA N B l im s)) := by
  have HRW := hide (yreadWord_any s w hE)
  have HP := hide (And.intro hP (And.intro hW hK))
  by_cases hw : isWd s
  case neg =>
    rw [show cfA N B l im s = (0, 221, B, l) from by unfold cfA; rw [if_neg hw]]
    have HNW := hide hw
    unfold CfQ
    clear hP hW hK hE hw
    go_enter Tryz.func20, Tryz.ntmps20
    go_wp2_with fail
    refine (unhide HRW).mono ?_
    rintro e y ⟨k, n, r, b, rfl, hbw, _, hb⟩
    obtain rfl : b = false := by
      cases b with
      | false => rfl
      | true => exact absurd (hbw.1 rfl) (unhide HNW)
    have hbx : Below w.heap.size w (y.alloc (Obj.cells #[.int .i64 k, .int .i64 (n : Int), .string r] 103)) := hb.alloc hb.size _
    have HF := hide (show PrF F (y.alloc (Obj.cells #[.int .i64 k, .int .i64 (n : Int), .string r] 103)) p mp z N B l im ∧ Only (fun q => q = p ∨ q = mp ∨ KPt l q) w (y.alloc (Obj.cells #[.int .i64 k, .int .i64 (n : Int), .string r] 103)) from ⟨(unhide HP).1.below hbx, Only.of_below hbx⟩)
    clear hbw hb hbx HRW
    go_wp2
    go_ret2
    exact ⟨rfl, (unhide HF).1, (unhide HF).2⟩
  case pos =>
  obtain ⟨A, hA⟩ : ∃ q, blA N B l im (rwK s) (rwN s).toNat (rwR s) = q := ⟨_, rfl⟩
  have HAW := hide (show PW z N A.2.1 A.2.2 im from by rw [← hA]; exact blA_PW hW _ _ _)
  rw [show cfA N B l im s = (if A.1 = 0 then ((ntsP A.2.1 A.2.2).length : Int) else 0, A) from by unfold cfA; rw [if_pos hw, hA]]
  have HW9 := hide hw
  unfold CfQ
  have HPB := hide (show ∀ x, Below w.heap.size w x → Calls Tryz.prog 47 #[.pointer (some ⟨p, 0, none⟩), .agg #[.int .i64 (rwK s), .int .i64 ((rwN s).toNat : Int), .string (rwR s)]] x (BlQ F x p mp z N l im A) from fun x hx => by
    rw [← hA]
    exact pbelieve_any F x p mp z N B l im (hP.below hx) hW (hK.below hx hK.1) _ _ _)
  obtain ⟨a1, a2, a3⟩ := A
  simp only at HAW ⊢
  unfold BlQ at HPB
  simp only at HPB
  have HNT := hide (show ∀ y3, PrF F y3 p mp z N a2 a3 im → Calls Tryz.prog 35 #[.pointer (some ⟨p, 0, none⟩)] y3 fun e w' => ∃ a c, e = .returned (.slice a (ntsP a2 a3).length c) ∧ NL w' y3.heap.size a (ntsP a2 a3) ∧ Below y3.heap.size y3 w' from fun y3 hp => pnotes_any y3 p mp z N a2 a3 im hp.pr (by have := (unhide HAW).len; omega) (fun _ => (unhide HAW).ne))
  obtain ⟨k, hk⟩ : ∃ q, rwK s = q := ⟨_, rfl⟩
  obtain ⟨n, hn⟩ : ∃ q, (rwN s).toNat = q := ⟨_, rfl⟩
  obtain ⟨r, hr⟩ : ∃ q, rwR s = q := ⟨_, rfl⟩
  rw [hk, hn, hr] at HPB
  have HRE := hide (And.intro hk (And.intro hn hr))
  obtain ⟨m, hm⟩ : ∃ q, (ntsP a2 a3).length = q := ⟨_, rfl⟩
  rw [hm] at HNT ⊢
  clear hP hW hK hE hw hA hk hn hr hm HP
  by_cases ha : a1 = 0
  case' pos =>
    rw [if_pos ha]
    have e1 : (a1 != 0) = false := by simp [ha]
  case' neg =>
    rw [if_neg ha]
    have e1 : (a1 != 0) = true := by simp [ha]
  all_goals
    have HA0 := hide ha
    clear ha
    go_enter Tryz.func20, Tryz.ntmps20
    go_wp2_with fail
    refine (unhide HRW).mono ?_
    rintro e y ⟨k', n', r', b, rfl, hbw, hbv, hb⟩
    obtain rfl : b = true := hbw.2 (unhide HW9)
    obtain ⟨h1, h2, h3⟩ := hbv rfl
    rw [(unhide HRE).1] at h1
    rw [(unhide HRE).2.1] at h2
    rw [(unhide HRE).2.2] at h3
    rw [h1, h2, h3]
    clear h1 h2 h3
    have hb0 := Blk.new y 103 #[.int .i64 k, .int .i64 (n : Int), .string r]
    have hbx : Below w.heap.size w (y.alloc (Obj.cells #[.int .i64 k, .int .i64 (n : Int), .string r] 103)) := hb.alloc hb.size _
    obtain ⟨x, hx⟩ : ∃ q, y.alloc (Obj.cells #[.int .i64 k, .int .i64 (n : Int), .string r] 103) = q := ⟨_, rfl⟩
    obtain ⟨h, hh⟩ : ∃ q, y.heap.size = q := ⟨_, rfl⟩
    rw [hx, hh] at hb0
    rw [hx] at hbx
    have HX := hide (And.intro hx hh)
    have d0 : x.cell? ⟨h, 0, none⟩ = some (.int .i64 k) := by rw [hb0.cell 0]; rfl
    have d1 : x.cell? ⟨h, 1, none⟩ = some (.int .i64 (n : Int)) := by rw [hb0.cell 1]; rfl
    have d2 : x.cell? ⟨h, 2, none⟩ = some (.string r) := by rw [hb0.cell 2]; rfl
    have HBX := hide hbx
    have HBL := hide (unhide HPB x hbx)
    clear hbw hbv hb hb0 hx hh hbx HRW HPB
    go_wp2_with (first | fail | rw [(unhide HX).1, (unhide HX).2])
    refine (unhide HBL).mono ?_
    rintro e y3 ⟨rfl, hp3, ho3⟩
    have HO3 := hide ((Only.of_below (P := fun q => q = p ∨ q = mp ∨ KPt l q) (unhide HBX)).trans ho3 (fun _ _ q => q))
    have HN3 := hide (unhide HNT y3 hp3)
    have HP3 := hide hp3
    clear hp3 ho3 HBL d0 d1 d2 HNT
  · clear HN3
    go_wp2
    go_ret2
    exact ⟨rfl, unhide HP3, unhide HO3⟩
  · go_wp2_with fail
    refine (unhide HN3).mono ?_
    rintro e y4 ⟨a9, c9, rfl, _, hb4⟩
    have HF4 := hide (show PrF F y4 p mp z N a2 a3 im ∧ Only (fun q => q = p ∨ q = mp ∨ KPt l q) w y4 from ⟨(unhide HP3).below hb4, (unhide HO3).trans (Only.of_below (P := fun q => q = p ∨ q = mp ∨ KPt l q) hb4) (fun _ _ q => q)⟩)
    clear hb4 HN3
    go_wp2
    go_ret2
    exact ⟨by rw [unhide HA0]; rfl, (unhide HF4).1, (unhide HF4).2⟩
set_option maxHeartbeats 8000000 in
theorem pnew_any (F : Nat → Prop) (w : World) (M : List ByteArray) (z c B : Nat) (pm : Option Addr) (hz : M.length = z) (hS : SB w B pm M) (hB : B ≤ w.heap.size) (hF : ∀ q, w.heap.size ≤ q → F q) :
    Calls Tryz.prog 11 #[.slice pm z c] w fun e w' => Below w.heap.size w w' ∧ (imB M = false → e = .returned (.tuple #[.pointer none, .int .i64 220])) ∧ (imB M = true → ∃ p mp g, e = .returned (.tuple #[.pointer (some ⟨p, 0, none⟩), .int .i64 0]) ∧ w.heap.size ≤ p ∧ PrF F w' p mp z 1 0 [(1, g)] (fun _ => M)) := by
  have HI := hide (yisImage_any M z hz w B c pm hS)
  cases hI : imB M with
  | false =>
    rw [hI] at HI
    clear hz hS hF hB
    go_enter Tryz.func11, Tryz.ntmps11
    go_wp2_with fail
    refine (unhide HI).mono ?_
    rintro e w' ⟨rfl, hw⟩
    subst w'
    go_wp2
    go_ret2
    exact ⟨Below.refl _ _, fun _ => rfl, fun q => absurd q (by decide)⟩
  | true =>
    rw [hI] at HI
    have hl := imB_len hI
    obtain ⟨y0, hy0⟩ : ∃ q, w.alloc (.map #[] 0) = q := ⟨_, rfl⟩
    have hm0 := Mp.made w
    obtain ⟨mp, hmp⟩ : ∃ q, w.heap.size = q := ⟨_, rfl⟩
    rw [hy0, hmp] at hm0
    have hsz0 : y0.heap.size = mp + 1 := by rw [← hy0, ← hmp]; simp
    have hb0 : Below mp w y0 := by rw [← hy0, ← hmp]; exact (Below.refl _ _).alloc (Nat.le_refl _) _
    have hbk := Blk.new y0 85 #[.int .i64 (z : Int), .int .i64 0, .int .i64 0, .map (some mp)]
    obtain ⟨y1, hy1⟩ : ∃ q, y0.alloc (Obj.cells #[.int .i64 (z : Int), .int .i64 0, .int .i64 0, .map (some mp)] 85) = q := ⟨_, rfl⟩
    obtain ⟨p, hp⟩ : ∃ q, y0.heap.size = q := ⟨_, rfl⟩
    have hm1 : Mp y1 mp [] := by rw [← hy1]; exact hm0.alloc _
    have hb1 : Below mp w y1 := by rw [← hy1]; exact hb0.alloc (by omega) _
    rw [hy1, hp] at hbk
    have hPr : Pr y1 p mp z 0 0 [] (fun _ => M) := ⟨hbk, hm1, fun e he => absurd he (by simp), fun e he => absurd he (by simp)⟩
    have HST := hide (ystoreG_any [] M z hz (by omega) (imB_sht hI) y1 B 0 c 0 0 pm none (fun j hj => by
      obtain ⟨g, o, e, hg, hc⟩ := hS j hj
      exact ⟨g, o, e, hg, (hb1.cell (p := ⟨g, o + j, none⟩) (by show g < mp; omega)).trans hc⟩) (by have := hb1.size; omega) (.inl ⟨rfl, rfl, rfl⟩))
    have HY := hide (show (w.alloc (.map #[] 0)).alloc (Obj.cells #[.int .i64 (z : Int), .int .i64 0, .int .i64 0, .map (some w.heap.size)] 85) = y1 ∧ w.heap.size + 1 = p ∧ w.heap.size = mp from ⟨by rw [hy0, hmp]; exact hy1, by omega, hmp⟩)
    have HAD := hide (show ∀ y b, y1.heap.size ≤ b → Sg y b y1.heap.size M → Below y1.heap.size y1 y → Calls Tryz.prog 33 #[.pointer (some ⟨p, 0, none⟩), .pointer (some ⟨b, 0, none⟩)] y fun e w' => e = .returned (.tuple #[]) ∧ PrF F w' p mp z 1 0 [(1, b)] (fun _ => M) ∧ Below mp w w' from fun y b hb hs hy => by
      have h1 := padd_any y p mp z 0 0 b [] (fun _ => M) M (hPr.below hy) (by decide) (by decide) hs.sd (fun e he => absurd he (by simp)) (fun e he => absurd he (by simp))
      refine h1.mono ?_
      rintro e w' ⟨rfl, q1, q2⟩
      have hlt1 := hPr.blk.lt
      have hlt2 := hPr.map.lt
      have e3 : (fun k : Int => if k = ((0 : Nat) : Int) + 1 then M else M) = fun _ => M := by funext k; split <;> rfl
      have e4 : txPut (((0 : Nat) : Int) + 1) b [] = [(1, b)] := rfl
      rw [e3, e4] at q1
      have hsg : Sg w' b y1.heap.size M := hs.only q2 (fun q => by omega) (fun k cc q hk => by
        rcases q with q | q
        · subst q; exact (hPr.below hy).blk.tyne hk (by decide) rfl
        · subst q; exact (hPr.below hy).map.not_blk hk rfl)
      have hsz1 : mp ≤ y1.heap.size := by have := hb1.size; omega
      refine ⟨rfl, ⟨fun _ => y1.heap.size, ⟨q1, fun e he => ?_⟩, hF _ (by omega), hF _ (by omega), fun e he => ⟨hF _ ?_, hF y1.heap.size (by omega)⟩⟩, ?_⟩
      · rcases List.mem_cons.1 he with rfl | he
        · exact hsg
        · exact absurd he (by simp)
      · rcases List.mem_cons.1 he with rfl | he
        · show w.heap.size ≤ b
          omega
        · exact absurd he (by simp)
      · exact (hb1.trans (hy.mono hsz1)).trans (q2.below (B := mp) (by have := hy.size; omega) (fun k hk q => by omega)))
    have HPM := hide (show w.heap.size ≤ p by omega)
    have hmm := @run_makeMap Tryz.prog
    clear hz hS hF hB hy0 hmp hy1 hp hm0 hsz0 hb0 hbk hm1 hb1 hPr hI hl
    go_enter Tryz.func11, Tryz.ntmps11
    go_wp2_with fail
    refine (unhide HI).mono ?_
    rintro e w' ⟨rfl, hw⟩
    subst w'
    clear HI
    go_wp2_with fail
    rw [(unhide HY).1, (unhide HY).2.1]
    refine (unhide HST).mono ?_
    rintro e y ⟨b, rfl, hb, hs, hy⟩
    have HA := hide (unhide HAD y b hb hs hy)
    clear hb hs hy HAD HST
    go_wp2_with fail
    refine (unhide HA).mono ?_
    rintro e y9 ⟨rfl, hp9, hb9⟩
    have HE := hide (And.intro hp9 hb9)
    clear hp9 hb9 HA
    go_wp2
    go_ret2
    exact ⟨by rw [(unhide HY).2.2]; exact (unhide HE).2, fun q => absurd q (by decide), fun _ => ⟨p, mp, b, rfl, unhide HPM, (unhide HE).1⟩⟩
theorem PW.new {z : Nat} {M : List ByteArray} (hz : M.length = z) (hI : imB M = true) (g : Nat) : PW z 1 0 [(1, g)] (fun _ => M) := by
  have hl := imB_len hI
  have h1 : ∀ e ∈ ([(1, g)] : Tx), e.1 = 1 := fun e he => by
    rcases List.mem_cons.1 he with rfl | he
    · rfl
    · exact absurd he (by simp)
  refine ⟨by omega, by omega, by decide, List.pairwise_cons.2 ⟨fun e he => absurd he (by simp), List.Pairwise.nil⟩, fun e he => by have := h1 e he; omega, ⟨g, by simp⟩, fun q => absurd rfl q, fun e he => ⟨hz, hI⟩, by simp⟩
set_option maxHeartbeats 8000000 in
theorem pnote_any (F : Nat → Prop) (w : World) (p mp z N B : Nat) (l : Tx) (im : Int → List ByteArray) (hP : PrF F w p mp z N B l im) (hW : PW z N B l im) (M : List ByteArray) (c Bm : Nat) (pm : Option Addr) (hz : M.length = z) (hI : imB M = true) (hS : SB w Bm pm M) (hB : Bm ≤ w.heap.size) (hN : N < 65535) (hF : ∀ q, w.heap.size ≤ q → F q) :
    Calls Tryz.prog 14 #[.pointer (some ⟨p, 0, none⟩), .slice pm z c] w fun e w' => ∃ g, e = .returned (.int .i64 0) ∧ PrF F w' p mp z (N + 1) B (nwL N B g l) (nwI N M im) ∧ Only (fun q => q = p ∨ q = mp) w w' := by
  have HI := hide (yisImage_any M z hz w Bm c pm hS)
  rw [hI] at HI
  obtain ⟨G, hG, hFp, hFm, hFe⟩ := hP
  have c0 : w.cell? ⟨p, 0, none⟩ = some (.int .i64 (z : Int)) := by rw [hG.1.blk.cell 0]; rfl
  have c1 : w.cell? ⟨p, 1, none⟩ = some (.int .i64 (N : Int)) := by rw [hG.1.blk.cell 1]; rfl
  have c3 : w.cell? ⟨p, 3, none⟩ = some (.map (some mp)) := by rw [hG.1.blk.cell 3]; rfl
  have hM0 := hG.1.map
  have e0 : ((z : Int) != (z : Int)) = false := by simp
  have e1 : ((N : Int) == 65535) = false := by simp; omega
  obtain ⟨g, hg⟩ := hW.top
  have hsg := hG.2 _ hg
  have hgi := hW.img _ hg
  simp only at hsg hgi
  obtain ⟨gl, hgl⟩ : ∃ q, G ((N : Int), g) = q := ⟨_, rfl⟩
  rw [hgl] at hsg
  have g0 : w.cell? ⟨g, 0, none⟩ = some (.slice (some ⟨gl, 0, none⟩) z z) := by rw [hsg.c0, hgi.1]
  have HKT := hide (show I64k (N : Int) ∧ txAt l (N : Int) = some g from ⟨hW.I64k _ hg, (at_some hW.srt).2 hg⟩)
  have hz2 := hW.z2
  have HST := hide (ystoreG_any (im (N : Int)) M z hz (by omega) (imB_sht hI) w.drew Bm w.heap.size c z z pm (some ⟨gl, 0, none⟩) hS hB (.inr ⟨rfl, hgi.1, hsg.lst.sb, Nat.le_refl _⟩))
  have hkey : ∀ e ∈ l, e.1 ≤ (N : Int) := fun e he => (hW.key e he).2
  have HM1 := hide (show ∀ y1, Below w.drew.heap.size w.drew y1 → y1.cell? ⟨p, 3, none⟩ = some (.map (some mp)) ∧ y1.cell? ⟨p, 1, none⟩ = some (.int .i64 (N : Int)) ∧ Mp y1 mp l ∧ y1.cell? ⟨g, 0, none⟩ = some (.slice (some ⟨gl, 0, none⟩) z z) from fun y1 hb => by
    have h1 := (hG.drew.below hb)
    refine ⟨by rw [h1.1.blk.cell 3]; rfl, by rw [h1.1.blk.cell 1]; rfl, h1.1.map, ?_⟩
    have := (h1.2 _ hg)
    simp only at this
    rw [hgl] at this
    rw [this.c0, hgi.1])
  have HPA := hide (show ∀ y1 b, w.drew.heap.size ≤ b → Sg y1 b w.drew.heap.size M → Below w.drew.heap.size w.drew y1 → Calls Tryz.prog 33 #[.pointer (some ⟨p, 0, none⟩), .pointer (some ⟨b, 0, none⟩)] y1 fun e w' => e = .returned (.tuple #[]) ∧ Pr w' p mp z (N + 1) B (txPut ((N : Int) + 1) b l) (nwI N M im) ∧ Only (fun q => q = p ∨ q = mp) y1 w' from fun y1 b hb hs hy => padd_any y1 p mp z N B b l im M (hG.drew.below hy).1 hN (by have := hW.len; omega) hs.sd (fun e he q => by have := (hG.1.sds e he).lt; have hb' : w.heap.size ≤ b := hb; omega) hkey)
  have HM2 := hide (show ∀ y1 b y2, (w.drew.heap.size ≤ b ∧ Sg y1 b w.drew.heap.size M ∧ Below w.drew.heap.size w.drew y1) → Pr y2 p mp z (N + 1) B (txPut ((N : Int) + 1) b l) (nwI N M im) → Only (fun q => q = p ∨ q = mp) y1 y2 → PrF F y2 p mp z (N + 1) B (txPut ((N : Int) + 1) b l) (nwI N M im) ∧ Only (fun q => q = p ∨ q = mp) w y2 ∧ y2.cell? ⟨p, 2, none⟩ = some (.int .i64 (B : Int)) ∧ y2.cell? ⟨p, 1, none⟩ = some (.int .i64 ((N + 1 : Nat) : Int)) from fun y1 b y2 h1 h2 h3 => by
    have hy1 : Below w.heap.size w y1 := ⟨h1.2.2.os, h1.2.2.tape, h1.2.2.output, h1.2.2.size, h1.2.2.block⟩
    have hbw : w.heap.size ≤ b := h1.1
    have hg1 := hG.below hy1
    have h9 : ∀ kk cc, (kk = p ∨ kk = mp) → ¬ Blk y1 kk cc 9 := fun kk cc q hk => by
      rcases q with q | q
      · subst q; exact hg1.1.blk.tyne hk (by decide) rfl
      · subst q; exact hg1.1.map.not_blk hk rfl
    have hplt := hG.1.blk.lt
    have hmlt := hG.1.map.lt
    have hsb : Sg y2 b w.heap.size M := h1.2.1.only h3 (fun q => by omega) h9
    refine ⟨⟨fun e => if e.1 = (N : Int) + 1 then w.heap.size else G e, ⟨h2, fun e he => ?_⟩, hFp, hFm, fun e he => ?_⟩, (Only.of_below (P := fun q => q = p ∨ q = mp) hy1).trans h3 (fun _ _ q => q), by rw [h2.blk.cell 2]; rfl, by rw [h2.blk.cell 1]; rfl⟩
    · rcases (mem_nw hkey e).1 he with rfl | hel
      · simp only [if_pos, nwI]
        exact hsb
      · have hne : e.1 ≠ (N : Int) + 1 := fun q => by have := hkey e hel; omega
        unfold nwI
        simp only [if_neg hne]
        exact (hg1.2 e hel).only h3 (fun q => by
          rcases q with q | q
          · exact hg1.1.not_p (hg1.1.sds e hel) q
          · exact hg1.1.map.not_sd (hg1.1.sds e hel) q) h9
    · rcases (mem_nw hkey e).1 he with rfl | hel
      · simp only [if_pos]
        exact ⟨hF _ hbw, hF _ (Nat.le_refl _)⟩
      · have hne : e.1 ≠ (N : Int) + 1 := fun q => by have := hkey e hel; omega
        simp only [if_neg hne]
        exact hFe e hel)
  have HLN := hide (show ∀ b, (txPut ((N : Int) + 1) b l).length = l.length + 1 from fun b => (hW.put hN M hz hI b).2.2.2)
  have HIK := hide (show ∀ b, ∀ e ∈ txPut ((N : Int) + 1) b l, I64k e.1 from fun b e he => by
    have := (hW.put hN M hz hI b).2.1 e he
    unfold I64k
    omega)
  have HW := hide hW
  have ql := Mp.get hM0.drew (unhide HKT).1 (unhide HKT).2
  clear hG hFp hFm hFe hW hz hI hS hB hN hF hM0 hsg hgi hgl hg hz2 hkey HM1
  go_enter Tryz.func14, Tryz.ntmps14
  go_wp2_with fail
  refine (unhide HI).mono ?_
  rintro e w' ⟨rfl, hw⟩
  subst w'
  clear HI
  go_wp2_with fail
  refine wp_region_held_drew (S := fun _ => True) (by kernel_rfl) trivial ?_
  intro hS
  refine wpAnyH_takeD 0 (some 22) (.pointer (some ⟨p, 0, none⟩)) rfl rfl (by kernel_rfl) (by kernel_rfl) (by kernel_rfl) (fun _ _ _ h => h) (Or.inl ⟨by rfl, fun w hSw => by clear hSw; go_simp; try (intro hbad; omega)⟩) hS ?_
  simp only [Act.put, List.setIfInBounds_toArray, List.set_cons_zero, List.set_cons_succ]
  refine wpAnyH_takeD 1 (some 23) (.slice pm z c) rfl rfl (by kernel_rfl) (by kernel_rfl) (by kernel_rfl) (fun _ _ _ h => h) (Or.inl ⟨by rfl, fun w hSw => by clear hSw; go_simp; try (intro hbad; omega)⟩) hS ?_
  simp only [Act.put, List.setIfInBounds_toArray, List.set_cons_zero, List.set_cons_succ]
  refine wpAnyH_takeD 2 (some 24) (.pointer (some ⟨p, 0, none⟩)) rfl rfl (by kernel_rfl) (by kernel_rfl) (by kernel_rfl) (fun _ _ _ h => h) (Or.inl ⟨by rfl, fun w hSw => by clear hSw; go_simp; try (intro hbad; omega)⟩) hS ?_
  simp only [Act.put, List.setIfInBounds_toArray, List.set_cons_zero, List.set_cons_succ]
  refine wpAnyH_takeD 3 (some 25) (.pointer (some ⟨p, 0, none⟩)) rfl rfl (by kernel_rfl) (by kernel_rfl) (by kernel_rfl) (fun _ _ _ h => h) (Or.inl ⟨by rfl, fun w hSw => by clear hSw; go_simp; try (intro hbad; omega)⟩) hS ?_
  simp only [Act.put, List.setIfInBounds_toArray, List.set_cons_zero, List.set_cons_succ]
  refine wpAnyH_takeD 4 (some 26) (.pointer (some ⟨p, 3, none⟩)) rfl rfl (by kernel_rfl) (by kernel_rfl) (by kernel_rfl) (fun _ _ _ h => h) (Or.inl ⟨by rfl, fun w hSw => by clear hSw; go_simp; try (intro hbad; omega)⟩) hS ?_
  simp only [Act.put, List.setIfInBounds_toArray, List.set_cons_zero, List.set_cons_succ]
  refine wpAnyH_takeD 6 (some 28) (.pointer (some ⟨p, 0, none⟩)) rfl rfl (by kernel_rfl) (by kernel_rfl) (by kernel_rfl) (fun _ _ _ h => h) (Or.inl ⟨by rfl, fun w hSw => by clear hSw; go_simp; try (intro hbad; omega)⟩) hS ?_
  simp only [Act.put, List.setIfInBounds_toArray, List.set_cons_zero, List.set_cons_succ]
  refine wpAnyH_takeD 7 (some 29) (.pointer (some ⟨p, 0, none⟩)) rfl rfl (by kernel_rfl) (by kernel_rfl) (by kernel_rfl) (fun _ _ _ h => h) (Or.inl ⟨by rfl, fun w hSw => by clear hSw; go_simp; try (intro hbad; omega)⟩) hS ?_
  simp only [Act.put, List.setIfInBounds_toArray, List.set_cons_zero, List.set_cons_succ]
  refine wpAnyH_takeD 8 (some 30) (.pointer (some ⟨p, 1, none⟩)) rfl rfl (by kernel_rfl) (by kernel_rfl) (by kernel_rfl) (fun _ _ _ h => h) (Or.inl ⟨by rfl, fun w hSw => by clear hSw; go_simp; try (intro hbad; omega)⟩) hS ?_
  simp only [Act.put, List.setIfInBounds_toArray, List.set_cons_zero, List.set_cons_succ]
  refine wpAnyH_ready (rs := [5, 9]) (by kernel_rfl) (by simp) ?_
  refine AllReadyH.cons rfl (fun K hK => ?_) (AllReadyH.cons rfl (fun K hK => ?_) AllReadyH.nil)
  case' refine_1 =>
    simp only [List.getElem_toArray, List.getElem_cons_succ, List.getElem_cons_zero]
    go_simp
    refine hK.out _ _ trivial (fun hS => ?_)
    clear hK K
    refine wpAnyH_ready (rs := [9]) (by kernel_rfl) (by simp) ?_
    refine AllReadyH.cons rfl (fun K hK => ?_) AllReadyH.nil
    simp only [List.getElem_toArray, List.getElem_cons_succ, List.getElem_cons_zero]
    go_simp
    refine hK.out _ _ trivial (fun hS => ?_)
    clear hK K
  case' refine_2 =>
    simp only [List.getElem_toArray, List.getElem_cons_succ, List.getElem_cons_zero]
    go_simp
    refine hK.out _ _ trivial (fun hS => ?_)
    clear hK K
    refine wpAnyH_ready (rs := [5]) (by kernel_rfl) (by simp) ?_
    refine AllReadyH.cons rfl (fun K hK => ?_) AllReadyH.nil
    simp only [List.getElem_toArray, List.getElem_cons_succ, List.getElem_cons_zero]
    go_simp
    refine hK.out _ _ trivial (fun hS => ?_)
    clear hK K
  all_goals
    refine wpAnyH_ready (rs := [10]) (by kernel_rfl) (by simp) ?_
    refine AllReadyH.cons rfl (fun K hK => ?_) AllReadyH.nil
    simp only [List.getElem_toArray, List.getElem_cons_succ, List.getElem_cons_zero]
    go_simp
    refine hK.out _ _ trivial (fun hS => ?_)
    clear hK K
    refine wpAnyH_takeD 11 (some 33) (.pointer (some ⟨g, 0, none⟩)) rfl rfl (by kernel_rfl) (by kernel_rfl) (by kernel_rfl) (fun _ _ _ h => h) (Or.inl ⟨by rfl, fun w hSw => by clear hSw; go_simp; try (intro hbad; omega)⟩) hS ?_
    simp only [Act.put, List.setIfInBounds_toArray, List.set_cons_zero, List.set_cons_succ]
    refine wpAnyH_takeD 12 (some 34) (.pointer (some ⟨g, 0, none⟩)) rfl rfl (by kernel_rfl) (by kernel_rfl) (by kernel_rfl) (fun _ _ _ h => h) (Or.inl ⟨by rfl, fun w hSw => by clear hSw; go_simp; try (intro hbad; omega)⟩) hS ?_
    simp only [Act.put, List.setIfInBounds_toArray, List.set_cons_zero, List.set_cons_succ]
    refine wpAnyH_ready (rs := [13]) (by kernel_rfl) (by simp) ?_
    refine AllReadyH.cons rfl (fun K hK => ?_) AllReadyH.nil
    simp only [List.getElem_toArray, List.getElem_cons_succ, List.getElem_cons_zero]
    go_simp
    refine hK.out _ _ trivial (fun hS => ?_)
    clear hK K
    refine wpAnyH_ready (rs := [14]) (by kernel_rfl) (by simp) ?_
    refine AllReadyH.cons rfl (fun K hK => ?_) AllReadyH.nil
    simp only [List.getElem_toArray, List.getElem_cons_succ, List.getElem_cons_zero]
    go_simp
    refine (unhide HST).mono ?_
    rintro e y1 ⟨b, rfl, hb, hs1, hb1⟩
    have HAD := hide (unhide HPA y1 b hb hs1 hb1)
    have HS1 := hide (And.intro hb (And.intro hs1 hb1))
    clear hb hs1 hb1
    refine hK.out _ _ trivial (fun hS => ?_)
    clear hK K
    refine wpAnyH_ready (rs := [15]) (by kernel_rfl) (by simp) ?_
    refine AllReadyH.cons rfl (fun K hK => ?_) AllReadyH.nil
    simp only [List.getElem_toArray, List.getElem_cons_succ, List.getElem_cons_zero]
    go_simp
    refine (unhide HAD).mono ?_
    rintro e y2 ⟨rfl, hp2, ho2⟩
    have HX9 := hide (unhide HM2 y1 b y2 (unhide HS1) hp2 ho2)
    clear hp2 ho2 HAD
    refine hK.out _ _ trivial (fun hS => ?_)
    clear hK K
    refine wpAnyH_done (by kernel_rfl) ?_ _
    clear hS
    have b2 := (unhide HX9).2.2.1
    have b1 := (unhide HX9).2.2.2
    have HP2 := hide (unhide HX9).1
    have HO2 := hide (unhide HX9).2.1
    clear HX9 HS1
    have HNT := hide (pnotes_any y2 p mp z (N + 1) B (txPut ((N : Int) + 1) b l) (nwI N M im) (unhide HP2).pr (by rw [(unhide HLN b)]; have := (unhide HW).len; omega) (fun _ q => by have := unhide HLN b; rw [q] at this; simp at this))
    rw [nts_len, unhide HLN b] at HNT
    go_wp2_with fail
    refine (unhide HNT).mono ?_
    rintro e y3 ⟨a9, c9, rfl, _, hb3⟩
    have HP3 := hide ((unhide HP2).below hb3)
    have HO3 := hide ((unhide HO2).trans (Only.of_below (P := fun q => q = p ∨ q = mp) hb3) (fun _ _ q => q))
    clear hb3 HNT HP2 HO2 b1 b2
    by_cases h8 : 8 < (if B = 0 then l.length + 1 else l.length + 1 - 1)
    case neg =>
      have e8 : ((if B = 0 then l.length + 1 else l.length + 1 - 1 : Nat) : Int) ≤ 8 := by omega
      have HE := hide (show nwL N B b l = txPut ((N : Int) + 1) b l from by unfold nwL; rw [nts_len, unhide HLN b, if_neg h8])
      clear h8
      generalize (if B = 0 then l.length + 1 else l.length + 1 - 1) = m at *
      go_wp2
      go_ret
      exact ⟨b, rfl, by rw [unhide HE]; exact unhide HP3, unhide HO3⟩
    case pos =>
      have e8 : (8 : Int) < ((if B = 0 then l.length + 1 else l.length + 1 - 1 : Nat) : Int) := by omega
      have HE := hide (show nwL N B b l = fgt B (N + 1) (txPut ((N : Int) + 1) b l) from by unfold nwL; rw [nts_len, unhide HLN b, if_pos h8])
      clear h8
      generalize (if B = 0 then l.length + 1 else l.length + 1 - 1) = m at *
      have b2 : y3.cell? ⟨p, 2, none⟩ = some (.int .i64 (B : Int)) := by rw [(unhide HP3).pr.blk.cell 2]; rfl
      have b1 : y3.cell? ⟨p, 1, none⟩ = some (.int .i64 ((N + 1 : Nat) : Int)) := by rw [(unhide HP3).pr.blk.cell 1]; rfl
      obtain ⟨G3, hG3, hp3, hm3, he3⟩ := unhide HP3
      have HFG := hide (pforget_any y3.drew p mp z (N + 1) B B (N + 1) (txPut ((N : Int) + 1) b l) (nwI N M im) hG3.drew.1 (unhide HIK b))
      have HM4 := hide (show ∀ y4, Pr y4 p mp z (N + 1) B (fgt B (N + 1) (txPut ((N : Int) + 1) b l)) (nwI N M im) → Only (fun q => q = mp) y3.drew y4 → (y4.cell? ⟨p, 2, none⟩ = some (.int .i64 (B : Int)) ∧ y4.cell? ⟨p, 1, none⟩ = some (.int .i64 ((N + 1 : Nat) : Int))) ∧ (PrF F y4 p mp z (N + 1) B (nwL N B b l) (nwI N M im) ∧ Only (fun q => q = p ∨ q = mp) w y4) from fun y4 hp ho => by
        have ho' : Only (fun q => q = mp) y3 y4 := ⟨⟨ho.1.os, ho.1.tape, ho.1.output, ho.1.size, ho.1.block⟩, ho.2⟩
        refine ⟨⟨by rw [hp.blk.cell 2]; rfl, by rw [hp.blk.cell 1]; rfl⟩, ?_, (unhide HO3).trans ho' (fun _ _ q => .inr q)⟩
        rw [unhide HE]
        exact ⟨G3, hG3.map' hp (fun e he => (mem_fgt.1 he).1) ho', hp3, hm3, fun e he => he3 e (mem_fgt.1 he).1⟩)
      obtain ⟨N1, hN1⟩ : ∃ q : Nat, N + 1 = q := ⟨_, rfl⟩
      clear hG3 hp3 hm3 he3
      rw [hN1] at HFG HM4 b1
      have HN1 := hide hN1
      clear hN1
      go_wp2_with fail
      refine wp_region_held_drew (S := fun W => W.cell? ⟨p, 2, none⟩ = some (.int .i64 (B : Int)) ∧ W.cell? ⟨p, 1, none⟩ = some (.int .i64 (N1 : Int))) (by kernel_rfl) ⟨b2, b1⟩ ?_
      intro hS
      refine wpAnyH_takeD 0 (some 42) (.pointer (some ⟨p, 0, none⟩)) rfl rfl (by kernel_rfl) (by kernel_rfl) (by kernel_rfl) (fun _ _ _ h => h) (Or.inl ⟨by rfl, fun w hSw => by obtain ⟨q1, q2⟩ := hSw; go_simp; try (intro hbad; omega)⟩) hS ?_
      simp only [Act.put, List.setIfInBounds_toArray, List.set_cons_zero, List.set_cons_succ]
      refine wpAnyH_takeD 1 (some 43) (.pointer (some ⟨p, 0, none⟩)) rfl rfl (by kernel_rfl) (by kernel_rfl) (by kernel_rfl) (fun _ _ _ h => h) (Or.inl ⟨by rfl, fun w hSw => by obtain ⟨q1, q2⟩ := hSw; go_simp; try (intro hbad; omega)⟩) hS ?_
      simp only [Act.put, List.setIfInBounds_toArray, List.set_cons_zero, List.set_cons_succ]
      refine wpAnyH_takeD 2 (some 44) (.pointer (some ⟨p, 0, none⟩)) rfl rfl (by kernel_rfl) (by kernel_rfl) (by kernel_rfl) (fun _ _ _ h => h) (Or.inl ⟨by rfl, fun w hSw => by obtain ⟨q1, q2⟩ := hSw; go_simp; try (intro hbad; omega)⟩) hS ?_
      simp only [Act.put, List.setIfInBounds_toArray, List.set_cons_zero, List.set_cons_succ]
      refine wpAnyH_takeD 3 (some 45) (.pointer (some ⟨p, 2, none⟩)) rfl rfl (by kernel_rfl) (by kernel_rfl) (by kernel_rfl) (fun _ _ _ h => h) (Or.inl ⟨by rfl, fun w hSw => by obtain ⟨q1, q2⟩ := hSw; go_simp; try (intro hbad; omega)⟩) hS ?_
      simp only [Act.put, List.setIfInBounds_toArray, List.set_cons_zero, List.set_cons_succ]
      refine wpAnyH_takeD 4 (some 46) (.int .i64 (B : Int)) rfl rfl (by kernel_rfl) (by kernel_rfl) (by kernel_rfl) (fun _ _ _ h => h) (Or.inl ⟨by rfl, fun w hSw => by obtain ⟨q1, q2⟩ := hSw; go_simp; try (intro hbad; omega)⟩) hS ?_
      simp only [Act.put, List.setIfInBounds_toArray, List.set_cons_zero, List.set_cons_succ]
      refine wpAnyH_takeD 5 (some 47) (.pointer (some ⟨p, 0, none⟩)) rfl rfl (by kernel_rfl) (by kernel_rfl) (by kernel_rfl) (fun _ _ _ h => h) (Or.inl ⟨by rfl, fun w hSw => by obtain ⟨q1, q2⟩ := hSw; go_simp; try (intro hbad; omega)⟩) hS ?_
      simp only [Act.put, List.setIfInBounds_toArray, List.set_cons_zero, List.set_cons_succ]
      refine wpAnyH_takeD 6 (some 48) (.pointer (some ⟨p, 0, none⟩)) rfl rfl (by kernel_rfl) (by kernel_rfl) (by kernel_rfl) (fun _ _ _ h => h) (Or.inl ⟨by rfl, fun w hSw => by obtain ⟨q1, q2⟩ := hSw; go_simp; try (intro hbad; omega)⟩) hS ?_
      simp only [Act.put, List.setIfInBounds_toArray, List.set_cons_zero, List.set_cons_succ]
      refine wpAnyH_takeD 7 (some 49) (.pointer (some ⟨p, 1, none⟩)) rfl rfl (by kernel_rfl) (by kernel_rfl) (by kernel_rfl) (fun _ _ _ h => h) (Or.inl ⟨by rfl, fun w hSw => by obtain ⟨q1, q2⟩ := hSw; go_simp; try (intro hbad; omega)⟩) hS ?_
      simp only [Act.put, List.setIfInBounds_toArray, List.set_cons_zero, List.set_cons_succ]
      refine wpAnyH_takeD 8 (some 50) (.int .i64 (N1 : Int)) rfl rfl (by kernel_rfl) (by kernel_rfl) (by kernel_rfl) (fun _ _ _ h => h) (Or.inl ⟨by rfl, fun w hSw => by obtain ⟨q1, q2⟩ := hSw; go_simp; try (intro hbad; omega)⟩) hS ?_
      simp only [Act.put, List.setIfInBounds_toArray, List.set_cons_zero, List.set_cons_succ]
      refine wpAnyH_ready (rs := [9]) (by kernel_rfl) (by simp) ?_
      refine AllReadyH.cons rfl (fun K hK => ?_) AllReadyH.nil
      simp only [List.getElem_toArray, List.getElem_cons_succ, List.getElem_cons_zero]
      go_simp
      refine (unhide HFG).mono ?_
      rintro e y4 ⟨rfl, hp4, ho4⟩
      obtain ⟨m4, hx9⟩ := unhide HM4 y4 hp4 ho4
      have HX4 := hide hx9
      clear hp4 ho4 hx9
      refine hK.out _ _ m4 (fun hS => ?_)
      clear hK K
      refine wpAnyH_done (by kernel_rfl) ?_ _
      clear hS b1 b2 m4
      go_wp2
      go_ret
      exact ⟨b, rfl, by rw [unhide HN1]; exact (unhide HX4).1, (unhide HX4).2⟩
end Go.Proofs.YtnfdedolgfcmfaaGreatDoor
