import Derived.Test.YtkmgbicacbalfaaDoorRre
namespace Go.Proofs.YtkmgbicacbalfaaDoor
open Go.RowKit
theorem be8 (l : List Int) (hb : Bytes l) (hl : 8 ≤ l.length) : 9223372036854775807 < beN (l.take 8) ↔ 127 < l.getD 0 0 := by
  rcases l with _ | ⟨a, _ | ⟨b, _ | ⟨c, _ | ⟨d, _ | ⟨e, _ | ⟨f, _ | ⟨g, _ | ⟨h, t⟩⟩⟩⟩⟩⟩⟩⟩
  all_goals first
    | (simp at hl; done)
    | (simp at hl; omega)
    | skip
  have h0 := hb 0
  have h1 := hb 1
  have h2 := hb 2
  have h3 := hb 3
  have h4 := hb 4
  have h5 := hb 5
  have h6 := hb 6
  have h7 := hb 7
  simp at h0 h1 h2 h3 h4 h5 h6 h7
  simp [beN]
  omega
theorem FPost.same {b : Nat} {S : ByteArray} {t E : Int} {c : Nat} {v u : Value} {w w0 : World} (h : Rrf w0 b S t 0) (hE : E ≠ 0) (hv : u = v) (ho : Only (fun k => k = b) w w0) : FPost b S t E c v w (.returned u) (w0.setCell ⟨b, 2, none⟩ (.int .i64 E)) :=
  ⟨by rw [hv], by unfold rTak; rw [if_neg hE]; exact h.wrong E, ho.setCell _ _ (fun _ => rfl)⟩
theorem FPost.good {b : Nat} {S : ByteArray} {t : Int} {c : Nat} {v u : Value} {w w0 : World} {p : Nat} (h : Rrf w0 b S t 0) (hv : u = v) (ho : Only (fun k => k = b) w w0) (hp : t + (c : Int) = (p : Int)) : FPost b S t 0 c v w (.returned u) (w0.setCell ⟨b, 1, none⟩ (.int .i64 (p : Int))) :=
  ⟨by rw [hv], by unfold rTak; rw [if_pos rfl, hp]; exact h.moved _, ho.setCell _ _ (fun _ => rfl)⟩
theorem Rrf.drewN {w : World} {b : Nat} {S : ByteArray} {t e : Int} (h : Rrf w b S t e) (n : Nat) : Rrf (w.drewN n) b S t e := h
set_option maxRecDepth 100000 in
set_option maxHeartbeats 4000000 in
theorem fraw_any (w : World) (b : Nat) (S : ByteArray) (at0 : Nat) (h : Rrf w b S (at0 : Int) 0) (hat : at0 ≤ S.size) (hs : S.size ≤ 9223372036854775807) (n : Int) :
    Calls Tryd.prog 24 #[.pointer (some ⟨b, 0, none⟩), .int .i64 n] w fun ev w' => FPost b S (at0 : Int) (rawE n (S.extract at0 S.size)) n.toNat (.string (rawV n (S.extract at0 S.size))) w ev w' := by
  obtain ⟨c0, c1, c2, f0, f1, f2⟩ := h.cells
  have HH := hide h
  clear h
  have hrs : (S.extract at0 S.size).size = S.size - at0 := by simp
  by_cases hn : n < 0
  · have hE : rawE n (S.extract at0 S.size) = 1 := by rw [rawE, if_pos hn]
    have hV : rawV n (S.extract at0 S.size) = ⟨#[]⟩ := by rw [rawV, hE, if_neg (by decide)]
    rw [hE, hV]
    clear hE hV hrs
    go_enter Tryd.func24, Tryd.ntmps24
    go_wp2
    go_ret
    exact FPost.same (unhide HH) (by decide) rfl (Only.refl _ _)
  · obtain ⟨k, rfl⟩ := Int.eq_ofNat_of_zero_le (show 0 ≤ n by omega)
    obtain ⟨q, hq⟩ : ∃ q, S.size - at0 = q := ⟨_, rfl⟩
    have hqi : (S.size : Int) - (at0 : Int) = (q : Int) := by omega
    have hwq : IntKind.i64.wrap (q : Int) = (q : Int) := wrapI_eq _ (by omega) (by omega)
    by_cases hk : q < k
    · have hE : rawE (k : Int) (S.extract at0 S.size) = 31 := by rw [rawE, if_neg hn, if_pos (by rw [hrs]; omega)]
      have hV : rawV (k : Int) (S.extract at0 S.size) = ⟨#[]⟩ := by rw [rawV, hE, if_neg (by decide)]
      rw [hE, hV]
      clear hE hV hrs hq
      go_enter Tryd.func24, Tryd.ntmps24
      go_wp2
      go_quiet (fail)
      go_wp2
      go_ret
      exact FPost.same ((unhide HH).drewN _) (by decide) rfl ((Only.refl _ _).drewN _)
    · have hE : rawE (k : Int) (S.extract at0 S.size) = 0 := by rw [rawE, if_neg hn, if_neg (by rw [hrs]; omega)]
      obtain ⟨p, hp⟩ : ∃ p, at0 + k = p := ⟨_, rfl⟩
      have hpi : (at0 : Int) + (k : Int) = (p : Int) := by omega
      have hwp : IntKind.i64.wrap (p : Int) = (p : Int) := wrapI_eq _ (by omega) (by omega)
      have hV : rawV (k : Int) (S.extract at0 S.size) = S.extract at0 p := by rw [rawV, hE, if_pos rfl, Int.toNat_natCast, extract_mid, hp]
      have hps : p ≤ S.size := by omega
      have hap : at0 ≤ p := by omega
      rw [hE, hV]
      have HP := hide (show (at0 : Int) + (((k : Int).toNat : Nat) : Int) = (p : Int) by rw [Int.toNat_natCast]; exact hpi)
      clear hE hV hrs hq hp
      go_enter Tryd.func24, Tryd.ntmps24
      go_wp2
      go_quiet (fail)
      go_wp2
      go_quiet (fail)
      go_wp2
      go_ret
      exact FPost.good ((unhide HH).drewN _) rfl ((Only.refl _ _).drewN _) (unhide HP)
set_option maxRecDepth 100000 in
set_option maxHeartbeats 4000000 in
theorem ftext_any (w : World) (b : Nat) (S : ByteArray) (at0 : Nat) (h : Rrf w b S (at0 : Int) 0) (hat : at0 ≤ S.size) (hs : S.size ≤ 9223372036854775807) (most : Int) :
    Calls Tryd.prog 25 #[.pointer (some ⟨b, 0, none⟩), .int .i64 most] w fun ev w' => FPost b S (at0 : Int) (textE most (S.extract at0 S.size)) (varC (S.extract at0 S.size) + varV (S.extract at0 S.size)) (.string (textV most (S.extract at0 S.size))) w ev w' := by
  obtain ⟨c0, c1, c2, f0, f1, f2⟩ := h.cells
  obtain ⟨r, hr⟩ : ∃ r, S.extract at0 S.size = r := ⟨_, rfl⟩
  rw [hr]
  have hrs : r.size = S.size - at0 := by rw [← hr]; simp
  have HH := hide h
  clear h
  by_cases hm : most < 0
  · have hE : textE most r = 1 := by rw [textE, if_pos hm]
    have hV : textV most r = ⟨#[]⟩ := by rw [textV, hE, if_neg (by decide)]
    rw [hE, hV]
    clear hE hV hrs hr
    go_enter Tryd.func25, Tryd.ntmps25
    go_wp2
    go_ret
    exact FPost.same (unhide HH) (by decide) rfl (Only.refl _ _)
  · have hP : varP ((nums S).drop at0) = (varE r, (varP (nums r)).2.1, varC r) := by rw [← nums_tail, hr]; rfl
    have HD := hide (fun W => fdigits_any S at0 hat hs _ _ _ hP W)
    have hv : (varP (nums r)).2.1 = varV r := by
      unfold varV
      split
      · rfl
      · rename_i hne
        exact dgA_bad _ _ _ _ hne
    rw [hv] at HD
    have hmn : ¬ (most : Int) < 0 := hm
    by_cases he : varE r = 0
    · have hc : varC r ≤ S.size - at0 := by
        have := varC_le r he
        omega
      rw [he] at HD
      by_cases hl : most < (varV r : Int)
      · have hE : textE most r = 32 := by rw [textE, if_neg hm, if_neg (by simpa using he), if_pos hl]
        have hV : textV most r = ⟨#[]⟩ := by rw [textV, hE, if_neg (by decide)]
        rw [hE, hV]
        generalize varC r = C at *
        generalize varV r = V at *
        clear hE hV hrs hr hP hv he
        go_enter Tryd.func25, Tryd.ntmps25
        go_wp2
        go_quiet ((go_at_call 36; exact Calls.quiet_of_same (unhide HD _)))
        go_wp2
        go_ret
        exact FPost.same ((unhide HH).drewN _) (by decide) rfl ((Only.refl _ _).drewN _)
      · obtain ⟨q, hq⟩ : ∃ q, S.size - at0 = q := ⟨_, rfl⟩
        have hqi : (S.size : Int) - (at0 : Int) = (q : Int) := by omega
        have hwq : IntKind.i64.wrap (q : Int) = (q : Int) := wrapI_eq _ (by omega) (by omega)
        obtain ⟨q2, hq2⟩ : ∃ q2, q - varC r = q2 := ⟨_, rfl⟩
        have hqi2 : (q : Int) - (varC r : Int) = (q2 : Int) := by omega
        have hwq2 : IntKind.i64.wrap (q2 : Int) = (q2 : Int) := wrapI_eq _ (by omega) (by omega)
        by_cases hk : q2 < varV r
        · have hE : textE most r = 31 := by rw [textE, if_neg hm, if_neg (by simpa using he), if_neg hl, if_pos (by omega)]
          have hV : textV most r = ⟨#[]⟩ := by rw [textV, hE, if_neg (by decide)]
          rw [hE, hV]
          generalize varC r = C at *
          generalize varV r = V at *
          clear hE hV hrs hr hP hv he hq hq2
          go_enter Tryd.func25, Tryd.ntmps25
          go_wp2
          go_quiet ((go_at_call 36; exact Calls.quiet_of_same (unhide HD _)))
          go_wp2
          go_quiet (fail)
          go_wp2
          go_ret
          exact FPost.same ((unhide HH).drewN _) (by decide) rfl ((Only.refl _ _).drewN _)
        · have hE : textE most r = 0 := by rw [textE, if_neg hm, if_neg (by simpa using he), if_neg hl, if_neg (by omega)]
          obtain ⟨p, hp⟩ : ∃ p, at0 + varC r = p := ⟨_, rfl⟩
          have hpi : (at0 : Int) + (varC r : Int) = (p : Int) := by omega
          have hwp : IntKind.i64.wrap (p : Int) = (p : Int) := wrapI_eq _ (by omega) (by omega)
          obtain ⟨p2, hp2⟩ : ∃ p2, p + varV r = p2 := ⟨_, rfl⟩
          have hpi2 : (p : Int) + (varV r : Int) = (p2 : Int) := by omega
          have hwp2 : IntKind.i64.wrap (p2 : Int) = (p2 : Int) := wrapI_eq _ (by omega) (by omega)
          have hV : textV most r = S.extract p p2 := by
            rw [textV, hE, if_pos rfl]
            have e1 : r.extract (varC r) (varC r + varV r) = (S.extract at0 S.size).extract (varC r) (varC r + varV r) := by rw [hr]
            rw [e1, ByteArray.extract_extract, hp]
            congr 1
            omega
          have hps : p2 ≤ S.size := by omega
          have hap : p ≤ p2 := by omega
          rw [hE, hV]
          have HP := hide (show (at0 : Int) + ((varC r + varV r : Nat) : Int) = (p2 : Int) by omega)
          generalize varC r = C at *
          generalize varV r = V at *
          clear hE hV hrs hr hP hv he hq hq2 hp hp2
          go_enter Tryd.func25, Tryd.ntmps25
          go_wp2
          go_quiet ((go_at_call 36; exact Calls.quiet_of_same (unhide HD _)))
          go_wp2
          go_quiet (fail)
          go_wp2
          go_quiet (fail)
          go_wp2
          go_ret
          exact FPost.good ((unhide HH).drewN _) rfl ((Only.refl _ _).drewN _) (unhide HP)
    · have hE : textE most r = varE r := by rw [textE, if_neg hm, if_pos he]
      have hV : textV most r = ⟨#[]⟩ := by rw [textV, hE, if_neg he]
      rw [hE, hV]
      have hne : (varE r != 0) = true := by simp [he]
      generalize varC r = C at *
      generalize varV r = V at *
      generalize varE r = E at *
      have HE := hide he
      clear hE hV hrs hr hP hv he
      go_enter Tryd.func25, Tryd.ntmps25
      go_wp2
      go_quiet ((go_at_call 36; exact Calls.quiet_of_same (unhide HD _)))
      go_wp2
      go_ret
      exact FPost.same ((unhide HH).drewN _) (unhide HE) rfl ((Only.refl _ _).drewN _)
end Go.Proofs.YtkmgbicacbalfaaDoor
