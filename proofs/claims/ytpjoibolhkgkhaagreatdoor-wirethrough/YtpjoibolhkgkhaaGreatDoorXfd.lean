import Derived.Test.YtpjoibolhkgkhaaGreatDoorXfc
namespace Go.Proofs.YtpjoibolhkgkhaaGreatDoor
open Go.RowKit
set_option maxRecDepth 100000
theorem fr_cell {W : World} {b : Nat} {fs : List Fld} {T : TypeId} (h : Blk W b (fs.map fv).toArray T) (k : Nat) (hk : k < fs.length) : W.cell? ⟨b, k, none⟩ = some (fv (fs[k])) := by
  rw [h.cell]; simp [hk]
set_option maxHeartbeats 4000000 in
theorem fieldsSize_any (fs : List Fld) (hF : ∀ f ∈ fs, IsF f) (hl : fs.length ≤ 1000) (v : Value) (w : World) (hR : FR w v fs) : Calls Tryz.prog 66 #[v] w fun e w' => e = .returned (.int .i64 (szF fs : Int)) ∧ Below w.heap.size w w' := by
  obtain ⟨p, rfl, hp⟩ := hR.form
  clear hR
  obtain ⟨g, hg⟩ : ∃ g, w.heap.size = g := ⟨_, rfl⟩
  have HP := hide (fun (h : 0 < fs.length) => hp h)
  have HS := hide (fun k (hk : k < fs.length) => szF_snoc fs k hk)
  have HSL := hide (fun k => szF_le (fs.take k) (fun f hf => hF f (List.mem_of_mem_take hf)))
  have HF := hide (fun k (hk : k < fs.length) => hF fs[k] (List.getElem_mem hk))
  have HC := hide (fun (W : World) (b : Nat) (h : Blk W b (fs.map fv).toArray 101) k hk => fr_cell h k hk)
  have HE := hide (show szF (fs.take fs.length) = szF fs by rw [List.take_length])
  have HL := hide hl
  clear hp hF hl
  obtain ⟨n, hn⟩ : ∃ n, fs.length = n := ⟨_, rfl⟩
  have HN := hide hn
  rw [hg, hn]
  go_enter Tryz.func66, Tryz.ntmps66
  go_wp2_with fail
  clear hn
  go_loopw [3, 8] (fun m i wr => ∃ k : Nat, k ≤ n ∧ i = .int .i64 (k : Int) ∧ m = .int .i64 (szF (fs.take k) : Int) ∧ Below g w wr) (fun _ i _ => n - (intOf i).toNat)
  case atStart => exact ⟨0, Nat.zero_le _, rfl, rfl, by rw [← hg]; exact Below.refl _ _⟩
  case round =>
    obtain ⟨k, hk, rfl, rfl, hB⟩ := hrel
    by_cases hkn : k < n
    · have hkn' : (k : Int) < (n : Int) := by omega
      have hk0 : (0 : Int) ≤ (k : Int) := by omega
      have hlen := unhide HN
      have hl := unhide HL
      obtain ⟨b, rfl, hBk⟩ := unhide HP (by omega)
      have hbg : b < g := by rw [← hg]; exact hBk.lt
      have hf := unhide HF k (by omega)
      have hc := unhide HC wr b (hBk.below hB hbg) k (by omega)
      have hs := unhide HS k (by omega)
      have hsl := unhide HSL k
      have hb256 := (isF_b hf).2
      have htl : (fs.take k).length ≤ k := by simp; omega
      have hwk : IntKind.i64.wrap ((k : Int) + 1) = ((k + 1 : Nat) : Int) := by rw [wrapI_eq _ (by omega) (by omega)]; omega
      have hwm : wrap64 ((szF (fs.take k) : Int) + (fs[k]'(by omega)).b) = (szF (fs.take (k + 1)) : Int) := by rw [wrap64_eq _ (by omega) (by omega)]; omega
      have HW := hide hwm
      have HB := hide hB
      have HLE := hide (show g ≤ wr.heap.size by rw [← hg]; exact hB.size)
      clear hBk hs hsl hb256 htl hwm hB hl hbg
      generalize fs[k]'(by omega) = f at *
      obtain ⟨M1, hM1⟩ : ∃ q, szF (fs.take (k + 1)) = q := ⟨_, rfl⟩
      have HM1 := hide hM1
      rw [hM1] at HW
      clear hM1
      generalize szF (fs.take k) = M0 at *
      clear hlen
      rcases hf with rfl | rfl | rfl | rfl | rfl | rfl | rfl | rfl | rfl | rfl | rfl | rfl
      · have hc' : wr.cell? ⟨b, k, none⟩ = some (.iface 121 (.agg #[.int .i64 1, .int .i64 1, .int .i64 8])) := hc
        have hw' : wrap64 ((M0 : Int) + 1) = (M1 : Int) := unhide HW
        clear hc HW
        go_wp2_with (go_at_call 131; refine (nsize_any _ _ _ _).mono ?_; rintro e x ⟨rfl, hx⟩; have HX := hide hx; clear hx)
        exact ⟨⟨k + 1, by omega, rfl, by rw [unhide HM1, hw'], (unhide HB).trans ((unhide HX).mono (unhide HLE))⟩, by simp [intOf]; omega⟩
      · have hc' : wr.cell? ⟨b, k, none⟩ = some (.iface 122 (.agg #[.int .i64 2, .int .i64 0, .int .i64 65535])) := hc
        have hw' : wrap64 ((M0 : Int) + 2) = (M1 : Int) := unhide HW
        clear hc HW
        go_wp2_with (go_at_call 131; refine (nsize_any _ _ _ _).mono ?_; rintro e x ⟨rfl, hx⟩; have HX := hide hx; clear hx)
        exact ⟨⟨k + 1, by omega, rfl, by rw [unhide HM1, hw'], (unhide HB).trans ((unhide HX).mono (unhide HLE))⟩, by simp [intOf]; omega⟩
      · have hc' : wr.cell? ⟨b, k, none⟩ = some (.iface 123 (.agg #[.int .i64 2, .int .i64 0, .int .i64 65535])) := hc
        have hw' : wrap64 ((M0 : Int) + 2) = (M1 : Int) := unhide HW
        clear hc HW
        go_wp2_with (go_at_call 131; refine (nsize_any _ _ _ _).mono ?_; rintro e x ⟨rfl, hx⟩; have HX := hide hx; clear hx)
        exact ⟨⟨k + 1, by omega, rfl, by rw [unhide HM1, hw'], (unhide HB).trans ((unhide HX).mono (unhide HLE))⟩, by simp [intOf]; omega⟩
      · have hc' : wr.cell? ⟨b, k, none⟩ = some (.iface 124 (.agg #[.int .i64 1, .int .i64 1, .int .i64 99])) := hc
        have hw' : wrap64 ((M0 : Int) + 1) = (M1 : Int) := unhide HW
        clear hc HW
        go_wp2_with (go_at_call 131; refine (nsize_any _ _ _ _).mono ?_; rintro e x ⟨rfl, hx⟩; have HX := hide hx; clear hx)
        exact ⟨⟨k + 1, by omega, rfl, by rw [unhide HM1, hw'], (unhide HB).trans ((unhide HX).mono (unhide HLE))⟩, by simp [intOf]; omega⟩
      · have hc' : wr.cell? ⟨b, k, none⟩ = some (.iface 125 (.agg #[.int .i64 1, .int .i64 0, .int .i64 255])) := hc
        have hw' : wrap64 ((M0 : Int) + 1) = (M1 : Int) := unhide HW
        clear hc HW
        go_wp2_with (go_at_call 131; refine (nsize_any _ _ _ _).mono ?_; rintro e x ⟨rfl, hx⟩; have HX := hide hx; clear hx)
        exact ⟨⟨k + 1, by omega, rfl, by rw [unhide HM1, hw'], (unhide HB).trans ((unhide HX).mono (unhide HLE))⟩, by simp [intOf]; omega⟩
      · have hc' : wr.cell? ⟨b, k, none⟩ = some (.iface 126 (.agg #[.int .i64 4, .int .i64 0, .int .i64 4294967295])) := hc
        have hw' : wrap64 ((M0 : Int) + 4) = (M1 : Int) := unhide HW
        clear hc HW
        go_wp2_with (go_at_call 131; refine (nsize_any _ _ _ _).mono ?_; rintro e x ⟨rfl, hx⟩; have HX := hide hx; clear hx)
        exact ⟨⟨k + 1, by omega, rfl, by rw [unhide HM1, hw'], (unhide HB).trans ((unhide HX).mono (unhide HLE))⟩, by simp [intOf]; omega⟩
      · have hc' : wr.cell? ⟨b, k, none⟩ = some (.iface 130 (.agg #[.int .i64 32])) := hc
        have hw' : wrap64 ((M0 : Int) + 32) = (M1 : Int) := unhide HW
        clear hc HW
        go_wp2_with (go_at_call 135; refine (tsize_any _ _).mono ?_; rintro e x ⟨rfl, hx⟩; have HX := hide hx; clear hx)
        exact ⟨⟨k + 1, by omega, rfl, by rw [unhide HM1, hw'], (unhide HB).trans ((unhide HX).mono (unhide HLE))⟩, by simp [intOf]; omega⟩
      · have hc' : wr.cell? ⟨b, k, none⟩ = some (.iface 131 (.agg #[.int .i64 48])) := hc
        have hw' : wrap64 ((M0 : Int) + 48) = (M1 : Int) := unhide HW
        clear hc HW
        go_wp2_with (go_at_call 135; refine (tsize_any _ _).mono ?_; rintro e x ⟨rfl, hx⟩; have HX := hide hx; clear hx)
        exact ⟨⟨k + 1, by omega, rfl, by rw [unhide HM1, hw'], (unhide HB).trans ((unhide HX).mono (unhide HLE))⟩, by simp [intOf]; omega⟩
      · have hc' : wr.cell? ⟨b, k, none⟩ = some (.iface 132 (.agg #[.int .i64 8])) := hc
        have hw' : wrap64 ((M0 : Int) + 8) = (M1 : Int) := unhide HW
        clear hc HW
        go_wp2_with (go_at_call 135; refine (tsize_any _ _).mono ?_; rintro e x ⟨rfl, hx⟩; have HX := hide hx; clear hx)
        exact ⟨⟨k + 1, by omega, rfl, by rw [unhide HM1, hw'], (unhide HB).trans ((unhide HX).mono (unhide HLE))⟩, by simp [intOf]; omega⟩
      · have hc' : wr.cell? ⟨b, k, none⟩ = some (.iface 133 (.agg #[.int .i64 256])) := hc
        have hw' : wrap64 ((M0 : Int) + 256) = (M1 : Int) := unhide HW
        clear hc HW
        go_wp2_with (go_at_call 135; refine (tsize_any _ _).mono ?_; rintro e x ⟨rfl, hx⟩; have HX := hide hx; clear hx)
        exact ⟨⟨k + 1, by omega, rfl, by rw [unhide HM1, hw'], (unhide HB).trans ((unhide HX).mono (unhide HLE))⟩, by simp [intOf]; omega⟩
      · have hc' : wr.cell? ⟨b, k, none⟩ = some (.iface 135 (.agg #[])) := hc
        have hw' : wrap64 ((M0 : Int) + 8) = (M1 : Int) := unhide HW
        clear hc HW
        go_wp2_with (go_at_call 138; refine (psize_any _).mono ?_; rintro e x ⟨rfl, hx⟩; have HX := hide hx; clear hx)
        exact ⟨⟨k + 1, by omega, rfl, by rw [unhide HM1, hw'], (unhide HB).trans ((unhide HX).mono (unhide HLE))⟩, by simp [intOf]; omega⟩
      · have hc' : wr.cell? ⟨b, k, none⟩ = some (.iface 136 (.agg #[])) := hc
        have hw' : wrap64 ((M0 : Int) + 9) = (M1 : Int) := unhide HW
        clear hc HW
        go_wp2_with (go_at_call 142; refine (vsize_any _).mono ?_; rintro e x ⟨rfl, hx⟩; have HX := hide hx; clear hx)
        exact ⟨⟨k + 1, by omega, rfl, by rw [unhide HM1, hw'], (unhide HB).trans ((unhide HX).mono (unhide HLE))⟩, by simp [intOf]; omega⟩
    · have hkn' : ¬ (k : Int) < (n : Int) := by omega
      obtain rfl : k = n := by omega
      have HB := hide hB
      clear hB
      have he := unhide HE
      rw [unhide HN] at he
      rw [he]
      clear he
      go_wp2
      go_ret
      exact ⟨rfl, unhide HB⟩
theorem frameSize_any (fs : List Fld) (hF : ∀ f ∈ fs, IsF f) (hl : fs.length ≤ 4) (v : Value) (w : World) (hR : FR w v fs) : Calls Tryz.prog 45 #[v] w fun e w' => e = .returned (.int .i64 ((5 + szF fs : Nat) : Int)) ∧ Below w.heap.size w w' := by
  have HS := hide (fieldsSize_any fs hF (by omega) v w hR)
  have hsz := szF_le fs hF
  have h1 : wrap64 (1 + (szF fs : Int)) = 1 + (szF fs : Int) := wrap64_eq _ (by omega) (by omega)
  have h2 : wrap64 (1 + (szF fs : Int) + 4) = ((5 + szF fs : Nat) : Int) := by rw [wrap64_eq _ (by omega) (by omega)]; omega
  clear hsz hR hF
  generalize (5 + szF fs : Nat) = M at *
  generalize szF fs = S at *
  go_enter Tryz.func45, Tryz.ntmps45
  go_wp2_with (go_at_call 66; refine (unhide HS).mono ?_; rintro e x ⟨rfl, hx⟩; have HX := hide hx; clear hx)
  go_ret
  exact ⟨by simp only [h1, h2]; rfl, unhide HX⟩
/-- how many bytes replies have -/
def rsz (k : Int) : Int := if 0 ≤ k ∧ k ≤ 12 then ((5 + szF (rpF k) : Nat) : Int) else 0
def rse (k : Int) : Int := if 0 ≤ k ∧ k ≤ 12 then 0 else 120
theorem replySize_any (k : Int) (w : World) : Calls Tryz.prog 17 #[.int .i64 k] w fun e w' => e = .returned (.tuple #[.int .i64 (rsz k), .int .i64 (rse k)]) ∧ Below w.heap.size w w' := by
  have HK := hide (isReplyKind_any k)
  by_cases h : 0 ≤ k ∧ k ≤ 12
  · rw [rsz, rse, if_pos h, if_pos h]
    rw [decide_eq_true h] at HK
    have HF := hide (rpf_any k)
    have HS := hide (fun v W hR => frameSize_any (rpF k) (fun f hf => (rpF_all k f hf).isF) (rpF_len k) v W hR)
    clear h
    generalize (5 + szF (rpF k) : Nat) = M at *
    generalize rpF k = fs at *
    go_enter Tryz.func17, Tryz.ntmps17
    go_wp2_with (go_at_call 34; refine (unhide HK _).mono ?_; rintro e x ⟨rfl, rfl⟩)
    go_wp2_with fail
    refine (unhide HF _).mono ?_
    rintro e x ⟨v, rfl, hR, hx⟩
    have HX := hide hx
    have HS2 := hide (unhide HS v x hR)
    clear hx hR
    go_wp2_with (go_at_call 45; refine (unhide HS2).mono ?_; rintro e y ⟨rfl, hy⟩; have HY := hide hy; clear hy)
    go_ret2
    exact ⟨rfl, (unhide HX).trans ((unhide HY).mono (unhide HX).size)⟩
  · rw [rsz, rse, if_neg h, if_neg h]
    rw [decide_eq_false h] at HK
    clear h
    go_enter Tryz.func17, Tryz.ntmps17
    go_wp2_with (go_at_call 34; refine (unhide HK _).mono ?_; rintro e x ⟨rfl, rfl⟩)
    go_ret2
    exact ⟨rfl, Below.refl _ _⟩
theorem kinds13 {k : Int} (h : 0 ≤ k ∧ k ≤ 12) : k = 0 ∨ k = 1 ∨ k = 2 ∨ k = 3 ∨ k = 4 ∨ k = 5 ∨ k = 6 ∨ k = 7 ∨ k = 8 ∨ k = 9 ∨ k = 10 ∨ k = 11 ∨ k = 12 := by omega
set_option maxHeartbeats 4000000 in
theorem room_any (k : Int) (h : 0 ≤ k ∧ k ≤ 12) (w : World) : Calls Tryz.prog 51 #[.int .i64 k] w fun e w' => e = .returned (.int .i64 (szF (rpF k) : Int)) ∧ Below w.heap.size w w' := by
  rcases kinds13 h with rfl | rfl | rfl | rfl | rfl | rfl | rfl | rfl | rfl | rfl | rfl | rfl | rfl <;> clear h <;> (go_enter Tryz.func51, Tryz.ntmps51; go_wp2; go_ret; exact ⟨rfl, (Below.refl _ _).alloc (Nat.le_refl _) _⟩)
end Go.Proofs.YtpjoibolhkgkhaaGreatDoor
