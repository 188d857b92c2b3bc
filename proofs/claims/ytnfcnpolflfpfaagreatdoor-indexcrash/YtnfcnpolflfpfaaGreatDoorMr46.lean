import Derived.Test.YtnfcnpolflfpfaaGreatDoorMr45
namespace Go.Proofs.YtnfcnpolflfpfaaGreatDoor
open Go.RowKit Go.Maps Go.Sort Go.Shelf
/-- The cells of the slots at these places. -/
def eaC (T : Nat → En) (l : List Nat) : List Value := l.flatMap fun i => slC i (T i)
theorem eaC_app (T : Nat → En) (l m : List Nat) : eaC T (l ++ m) = eaC T l ++ eaC T m := by simp [eaC]
theorem eaC_at (T : Nat → En) : ∀ (l : List Nat) (k j : Nat), k < l.length → j < 3 → (eaC T l)[k * 3 + j]? = (slC (l.getD k 0) (T (l.getD k 0)))[j]?
  | [], k, j, hk, _ => absurd hk (Nat.not_lt_zero k)
  | i :: r, 0, j, _, hj => by
    show (slC i (T i) ++ eaC T r)[0 * 3 + j]? = _
    rw [List.getElem?_append_left (by rw [slC_len]; omega), Nat.zero_mul, Nat.zero_add]
    rfl
  | i :: r, k + 1, j, hk, hj => by
    show (slC i (T i) ++ eaC T r)[(k + 1) * 3 + j]? = _
    rw [List.getElem?_append_right (by rw [slC_len]; omega), slC_len, show (k + 1) * 3 + j - 3 = k * 3 + j by omega]
    exact eaC_at T r k j (by simpa using hk) hj
/-- A row of slots as it lies there. -/
def Sls (w : World) (p : Option Addr) (T : Nat → En) (l : List Nat) : Prop := ∀ k, k < l.length → ∃ g o, p = some ⟨g, o, none⟩ ∧ g < w.heap.size ∧ ∀ j, j < 3 → w.cell? ⟨g, o + k * 3 + j, none⟩ = (slC (l.getD k 0) (T (l.getD k 0)))[j]?
theorem Sls.below {w w' : World} {p : Option Addr} {T : Nat → En} {l : List Nat} (h : Sls w p T l) (hb : Below w.heap.size w w') : Sls w' p T l := fun k hk => by
  obtain ⟨g, o, e, hg, hc⟩ := h k hk
  exact ⟨g, o, e, Nat.lt_of_lt_of_le hg hb.size, fun j hj => by rw [hb.cell (p := ⟨g, _, none⟩) hg]; exact hc j hj⟩
theorem sls_own {w : World} {base : Nat} {p : Option Addr} {m c : Nat} {T : Nat → En} {l : List Nat} (h : w.ownsRow base 46 3 (.slice p m c) l.length (eaC T l)) : Sls w p T l := fun k hk => by
  rcases h.2 with ⟨_, h2⟩ | ⟨g, cap, cur, h1, _, hh, hn, _, hs, hx⟩
  · omega
  · obtain ⟨rfl, rfl, rfl⟩ : p = some ⟨g, 0, none⟩ ∧ m = l.length ∧ c = cap := by simpa using h1
    refine ⟨g, 0, rfl, (Array.getElem?_eq_some_iff.1 hh).1, fun j hj => ?_⟩
    rw [cell_of_row w g (0 + k * 3 + j) cur 46 (0, 0) hh, Nat.zero_add, ← eaC_at T l k j hk hj, ← hx, ← Array.getElem?_toList, List.getElem?_take, if_pos (by omega)]
theorem lstE_at (T : Nat → En) (n k : Nat) (hk : k < (lstE T n).length) : (lstI T n).getD k 0 = (((lstE T n).getD k 0 : Nat) : Int) ∧ ((lstE T n).getD k 0) < n ∧ (∃ d c, T ((lstE T n).getD k 0) = some (d, c)) ∧ (lstE T n).take (k + 1) = (lstE T n).take k ++ [(lstE T n).getD k 0] := by
  have hm : (lstE T n).getD k 0 ∈ lstE T n := by
    rw [List.getD_eq_getElem?_getD, List.getElem?_eq_getElem hk]
    exact List.getElem_mem hk
  obtain ⟨h1, h2⟩ := List.mem_filter.1 hm
  obtain ⟨p, hp⟩ := Option.isSome_iff_exists.1 h2
  refine ⟨by simp [lstI, hk], List.mem_range.1 h1, ⟨p.1, p.2, hp⟩, ?_⟩
  rw [List.take_add_one, List.getElem?_eq_getElem hk]
  simp [hk]
theorem news_three (w : World) (T : TypeId) (x y z : Value) (j : Nat) (u : Value) (hu : [x, y, z][j]? = some u) : (w.alloc (.cells #[x, y, z] T)).cell? (Addr.add ⟨w.heap.size, 0, none⟩ j) = some u := by
  rw [Addr.add_mid, Nat.zero_add, (Blk.new w T #[x, y, z]).cell j]
  simpa using hu
theorem infoSlot3 : (Tryz.prog.info? 46).map (fun i => (i.zero, i.size, i.bytes)) = some (some (.agg #[.int .i64 0, .string ⟨#[]⟩, .int .i64 0]), 3, 32) := by kernel_rfl
/-- A list of slots under way. -/
def EaI (w : World) (T : Nat → En) (l : List Nat) (u : Value) (k : Nat) (wr : World) : Prop := wr.ownsRow w.heap.size 46 3 u k (eaC T (l.take k)) ∧ Below w.heap.size w wr
set_option maxRecDepth 100000 in
set_option maxHeartbeats 2000000 in
theorem ieach_any {w0 w : World} {xb pb a eb bm n : Nat} {T : Nat → En} (h : IM w0 w xb pb a eb bm n T) (hT : TOk n T) (hn : n ≤ 1024) :
    Calls Tryz.prog 61 #[.pointer (some ⟨xb, 0, none⟩)] w fun e w' => ∃ p cap, e = .returned (.slice p (lstE T n).length cap) ∧ Sls w' p T (lstE T n) ∧ Below w.heap.size w w' := by
  obtain ⟨i0, hi, hz0, hz1, hz2⟩ := info_parts infoSlot3
  have HI := hide (And.intro hi (And.intro hz0 (And.intro hz1 hz2)))
  clear hi hz0 hz1 hz2
  have HRS := hide (rising_any h.mm hT hn)
  have HH := hide (And.intro h hT)
  have hel : (lstI T n).length = (lstE T n).length := by simp [lstI]
  have hlen : (lstE T n).length ≤ n := by
    have := List.length_filter_le (fun i => (T i).isSome) (List.range n)
    rw [List.length_range] at this
    exact this
  obtain ⟨m, hm⟩ : ∃ q, (lstE T n).length = q := ⟨_, rfl⟩
  rw [hel, hm] at HRS
  rw [hm] at hlen ⊢
  have HM := hide (And.intro hm hel)
  clear h hT hel hm
  go_enter Tryz.func61, Tryz.ntmps61
  go_wp2_with fail
  refine (unhide HRS).mono ?_
  rintro e x1 ⟨pv, cv, rfl, hIn, hb1⟩
  have X0 := hide (show EaI x1 T (lstE T n) (.slice none 0 0) 0 x1 from ⟨by rw [List.take_zero]; exact World.ownsRow_nil _ _ _ _, Below.refl _ _⟩)
  have H1 := hide (And.intro hIn hb1)
  clear hIn hb1 HRS
  go_wp2
  go_loopw [3, 11] (fun u i wr => ∃ k : Nat, k ≤ m ∧ i = .int .i64 (k : Int) ∧ EaI x1 T (lstE T n) u k wr) (fun _ i _ => m - (intOf i).toNat)
  case atStart => exact ⟨0, by omega, rfl, unhide X0⟩
  case round =>
    obtain ⟨k, hk, rfl, hR, hB⟩ := hrel
    obtain ⟨wo, rfl⟩ : ∃ wo, wo = wr := ⟨_, rfl⟩
    obtain ⟨pu, cu, rfl, hcu⟩ := row_form hR
    clear X0
    by_cases hkn : k < m
    · have hkn' : (k : Int) < (m : Int) := by omega
      have k0 : (0 : Int) ≤ (k : Int) := by omega
      obtain ⟨l1, l2, ⟨d, c, l3⟩, l4⟩ := lstE_at T n k (by rw [(unhide HM).1]; exact hkn)
      obtain ⟨g, oo, rfl, hgl, hcg⟩ := (unhide H1).1 k (by rw [(unhide HM).2, (unhide HM).1]; exact hkn)
      rw [l1, ← hB.cell (p := ⟨g, oo + k, none⟩) hgl] at hcg
      obtain ⟨i, hii⟩ : ∃ q, (lstE T n).getD k 0 = q := ⟨_, rfl⟩
      rw [hii] at l2 l3 l4 hcg
      have hbw : Below w.heap.size w wo := (unhide H1).2.trans (hB.mono (unhide H1).2.size)
      have HTE := hide (itell_any ((unhide HH).1.below hbw).mm (unhide HH).2 i l2 hn d c l3)
      have HR := hide (And.intro hR (And.intro hB (And.intro l3 l4)))
      clear hR hB l1 l3 l4 hii hgl hbw hcu
      go_wp2_with fail
      refine (unhide HTE).mono ?_
      rintro e y2 ⟨rfl, hb2⟩
      obtain ⟨hR, hB, l3, l4⟩ := unhide HR
      have hRA : (y2.alloc (.cells #[.int .i64 (i : Int), .string d, .int .i64 (c : Int)] 46)).ownsRow x1.heap.size 46 3 (.slice pu k cu) k (eaC T ((lstE T n).take k)) := (owns_only hR (Only.of_below (P := fun _ => False) hb2) (fun _ _ q => q)).alloc _
      have HRA := hide hRA
      have hB2 : Below x1.heap.size x1 y2 := hB.trans (hb2.mono hB.size)
      have HXB := hide (hB2.alloc hB2.size (.cells #[.int .i64 (i : Int), .string d, .int .i64 (c : Int)] 46))
      have HT := hide (show eaC T ((lstE T n).take (k + 1)) = eaC T ((lstE T n).take k) ++ [.int .i64 (i : Int), .string d, .int .i64 (c : Int)] from by
        rw [l4, eaC_app]
        congr 1
        show slC i (T i) ++ [] = _
        rw [l3]
        rfl)
      clear hR hB l3 l4 hRA hB2 hb2 HTE
      go_wp2_with (refine wpList_append_own _ rfl (.tmp 15) (.tmp 21) 29 rfl x1.heap.size 46 i0 (.agg #[.int .i64 0, .string ⟨#[]⟩, .int .i64 0]) 3 32 Tryz.underlying29 (unhide HI).1 (unhide HI).2.1 (unhide HI).2.2.1 (unhide HI).2.2.2 rfl (by decide) _ k (eaC T ((lstE T n).take k)) rfl (unhide HRA) ⟨y2.heap.size, 0, none⟩ 1 1 [.int .i64 (i : Int), .string d, .int .i64 (c : Int)] rfl rfl (fun q u hu => news_three y2 46 _ _ _ q u hu) (by simp [Value.oneCell']) (by unfold maxLen; omega) (by omega) (unhide HXB).size ?_)
      intro v5 x5 ho5 hg5 _
      have HRR := hide (show EaI x1 T (lstE T n) v5 (k + 1) x5 from ⟨by rw [unhide HT]; exact ho5, (unhide HXB).grown hg5 (unhide HXB).size (fun q hq => ((unhide HRA).lt q hq).1)⟩)
      clear ho5 hg5 HRA HXB HT hcg
      go_wp2
      go_roundw
      case rel => exact ⟨k + 1, by omega, by go_num, unhide HRR⟩
      case measure => simp [intOf]; omega
    · have hke : m = k := by omega
      have hkn' : ¬ (k : Int) < (m : Int) := by omega
      have HF := hide (And.intro hR (And.intro hB hke))
      clear hR hB hcu hke
      go_wp2
      go_ret
      obtain ⟨hR, hB, hke⟩ := unhide HF
      refine ⟨pu, ⟨cu, by rw [hke]; rfl⟩, ?_, (unhide H1).2.trans (hB.mono (unhide H1).2.size)⟩
      have hm := (unhide HM).1
      rw [List.take_of_length_le (by omega), ← hke, ← hm] at hR
      exact sls_own hR
theorem ISt.each {w0 w : World} {b jb pb xb : Nat} {Y : Nat → Prop} {a n kp : Nat} {op : Bool} {L : List ByteArray} {A : List (Nat × Nat)} {hn : Nat} {Tw T U : Nat → En} (h : ISt w0 w b jb pb xb Y a n kp op L A hn Tw T U) (hn24 : n ≤ 1024) : Calls Tryz.prog 61 #[.pointer (some ⟨xb, 0, none⟩)] w fun e w' => ∃ p cap, e = .returned (.slice p (lstE U n).length cap) ∧ Sls w' p U (lstE U n) ∧ Below w.heap.size w w' := by
  obtain ⟨eb, bm, hM⟩ := h.im
  exact ieach_any hM h.ok.2.1 hn24
end Go.Proofs.YtnfcnpolflfpfaaGreatDoor
