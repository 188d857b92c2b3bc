import Derived.Test.YtmnbfkehepccfaaGrh
import Derived.Laws.DeepStrings4
namespace Go.Proofs.Ytmnbfkehepccfaa
open Go.RowKit
set_option maxRecDepth 100000
theorem gr_str : (Try.prog.info? 9).map (fun i => (i.zero, i.size, i.bytes)) = some (some (.string ⟨#[]⟩), 1, 16) := by kernel_rfl
/-- the shards of data of a text -/
def spD (s : ByteArray) (d : Nat) : List ByteArray := (List.range d).map (fun i => (stB s d).extract (i * stN s.size d) (i * stN s.size d + stN s.size d))
/-- all shards of a text -/
def spL (s : ByteArray) (d m : Nat) : List ByteArray := spD s d ++ (List.range m).map (fun j => shT d (d + j) (stN s.size d) (spD s d))
theorem spD_len (s : ByteArray) (d : Nat) : (spD s d).length = d := by simp [spD]
theorem spD_size (s : ByteArray) (d : Nat) (hd : 1 ≤ d) (i : Nat) (hi : i < d) : ((spD s d).getD i ByteArray.empty).size = stN s.size d := by
  rw [List.getD_eq_getElem?_getD]
  simp only [spD, List.getElem?_map, List.getElem?_range hi, Option.map_some, Option.getD_some]
  rw [ByteArray.size_extract, stB_size s d hd]
  have : i * stN s.size d + stN s.size d ≤ d * stN s.size d := by
    have := Nat.mul_le_mul_right (stN s.size d) (show i + 1 ≤ d by omega)
    rw [Nat.add_mul, Nat.one_mul] at this
    exact this
  omega
theorem own_gtx {w : World} {base n c : Nat} {p : Option Addr} {L : List ByteArray} (hn : L.length = n) (h : w.ownsRow base 9 1 (.slice p n c) n (L.map Value.string)) : GTx w w.heap.size p L := fun j hj => by
  obtain ⟨g, e, h1, _, _, h4⟩ := gr_cell h j (by omega)
  refine ⟨g, 0, e, h4, ?_⟩
  rw [Nat.zero_add, h1, List.getElem?_map, List.getElem?_eq_getElem hj, List.getD_eq_getElem?_getD, List.getElem?_eq_getElem hj]
  rfl
theorem slice_str (b : ByteArray) (lo ln : Nat) (h : lo + ln ≤ b.size) (W : World) : (Instr.slice 9 (.string b) (some (.int .i64 (lo : Int))) (some (.int .i64 ((lo : Int) + (ln : Int)))) none).run Try.prog W = .ok (.string (b.extract lo (lo + ln))) W := by
  have h1 : 0 ≤ (lo : Int) + (ln : Int) ∧ (lo : Int) + (ln : Int) ≤ (b.size : Int) := by omega
  have h3 : 0 ≤ (lo : Int) ∧ (lo : Int) ≤ (lo : Int) + (ln : Int) := by omega
  have h4 : ((lo : Int) + (ln : Int)).toNat = lo + ln := by omega
  rw [run_slice_string_if W 9 b .i64 .i64 _ _ Try.underlying9, if_pos h1, if_pos h3, h4]
  rfl
theorem wrap_two (lo ln : Nat) (h : lo + ln ≤ 1000000) : wrap64 (lo : Int) = (lo : Int) ∧ wrap64 ((lo : Int) + (ln : Int)) = (lo : Int) + (ln : Int) := ⟨wrap64_eq _ (by omega) (by omega), wrap64_eq _ (by omega) (by omega)⟩
def SplQ (w : World) (s : ByteArray) (n m : Int) (e : Ending) (w' : World) : Prop := Below w.heap.size w w' ∧ (cntB n m = false → e = .returned (.tuple #[.slice none 0 0, .int .i64 180])) ∧ (cntB n m = true → 60000 < s.size → e = .returned (.tuple #[.slice none 0 0, .int .i64 183])) ∧ (cntB n m = true → s.size ≤ 60000 → ∃ v, e = .returned (.tuple #[v, .int .i64 0]) ∧ w'.ownsRow w.heap.size 9 1 v (n.toNat + m.toNat) ((spL s n.toNat m.toNat).map Value.string))
set_option maxHeartbeats 8000000 in
theorem rsplit_any (w : World) (s : ByteArray) (n m : Int) (hsb : s.size ≤ 9223372036854775807) : Calls Try.prog 18 #[.string s, .int .i64 n, .int .i64 m] w (SplQ w s n m) := by
  have HC := hide (fun W => rcount_any n m W)
  cases hc : cntB n m with
  | false =>
    rw [hc] at HC
    have HE := hide (show SplQ w s n m (.returned (.tuple #[.slice none 0 0, .int .i64 180])) w from ⟨Below.refl _ _, fun _ => rfl, fun q => absurd q (by rw [hc]; decide), fun q => absurd q (by rw [hc]; decide)⟩)
    go_enter Try.func18, Try.ntmps18
    go_wp2_with fail
    refine (unhide HC _).mono ?_
    rintro e w' ⟨rfl, hw'⟩
    subst w'
    go_wp2
    go_ret2
    exact unhide HE
  | true =>
  rw [hc] at HC
  by_cases hl : 60000 < s.size
  · have hl' : (60000 : Int) < (s.size : Int) := by omega
    have HE := hide (show SplQ w s n m (.returned (.tuple #[.slice none 0 0, .int .i64 183])) w from ⟨Below.refl _ _, fun q => absurd q (by rw [hc]; decide), fun _ _ => rfl, fun _ q => absurd q (by omega)⟩)
    go_enter Try.func18, Try.ntmps18
    go_wp2_with fail
    refine (unhide HC _).mono ?_
    rintro e w' ⟨rfl, hw'⟩
    subst w'
    go_wp2
    go_ret2
    exact unhide HE
  have hl' : ¬ (60000 : Int) < (s.size : Int) := by omega
  obtain ⟨hn1, hn2, hm1, hm2⟩ := of_decide_eq_true hc
  obtain ⟨d, rfl⟩ := Int.eq_ofNat_of_zero_le (show 0 ≤ n by omega)
  obtain ⟨r, rfl⟩ := Int.eq_ofNat_of_zero_le hm1
  have HQ := hide (show ∀ v w', w'.ownsRow w.heap.size 9 1 v (d + r) ((spL s d r).map Value.string) → Below w.heap.size w w' → SplQ w s (d : Int) (r : Int) (.returned (.tuple #[v, .int .i64 0])) w' from fun v w' h1 h2 => ⟨h2, fun q => absurd q (by rw [hc]; decide), fun _ q => absurd q hl, fun _ _ => ⟨v, rfl, h1⟩⟩)
  have hd1 : 1 ≤ d := by omega
  have hd2 : d ≤ 16 := by omega
  have hr : r ≤ 8 := by omega
  have HS := hide (fun W => rstream_any W s d hd1 hd2 (by omega))
  have hbz := stB_size s d hd1
  have hle := stN_le s.size d hd1
  have HSD := hide (And.intro (spD_len s d) (spD_size s d hd1))
  have HDI := hide (show spD s d = (List.range d).map (fun i => (stB s d).extract (i * stN s.size d) (i * stN s.size d + stN s.size d)) from rfl)
  have HLI := hide (show spL s d r = spD s d ++ (List.range r).map (fun j => shT d (d + j) (stN s.size d) (spD s d)) from rfl)
  obtain ⟨i0, hi, hz0, hz1, hz2⟩ := info_parts gr_str
  have HI := hide (And.intro hi (And.intro hz0 (And.intro hz1 hz2)))
  clear hi hz0 hz1 hz2
  obtain ⟨ln, hln⟩ : ∃ q, stN s.size d = q := ⟨_, rfl⟩
  obtain ⟨b, hb⟩ : ∃ q, stB s d = q := ⟨_, rfl⟩
  rw [hln] at HS hbz hle HSD HDI HLI
  rw [hb] at HS hbz HDI
  have hln3 : 1 * ln ≤ d * ln := Nat.mul_le_mul_right ln hd1
  obtain ⟨TL, hTL⟩ : ∃ q, d * ln = q := ⟨_, rfl⟩
  have HTL := hide hTL
  rw [hTL] at hle hln3 hbz
  have hTL2 : TL ≤ 1000000 := by omega
  have hln2 : ln ≤ 60020 := by omega
  clear hb hln hc hn1 hn2 hm1 hm2 hle hTL hln3 hsb
  go_enter Try.func18, Try.ntmps18
  go_wp2_with fail
  refine (unhide HC _).mono ?_
  rintro e w' ⟨rfl, hw'⟩
  subst w'
  go_wp2_with fail
  refine (unhide HS _).mono ?_
  rintro e w1 ⟨rfl, hw1⟩
  have HW1 := hide hw1
  clear HC HS hw1
  go_wp2
  go_loopw [11, 12] (fun u i wr => ∃ k : Nat, k ≤ d ∧ i = .int .i64 (k : Int) ∧ wr.ownsRow w1.heap.size 9 1 u k (((List.range k).map (fun i => b.extract (i * ln) (i * ln + ln))).map Value.string) ∧ Below w1.heap.size w1 wr) (fun _ i _ => d - (intOf i).toNat)
  case atStart => exact ⟨0, by omega, rfl, World.ownsRow_nil _ _ _ _, Below.refl _ _⟩
  case round =>
  obtain ⟨k, hk, rfl, ho, hb⟩ := hrel
  obtain ⟨wi, rfl⟩ : ∃ q, q = wr := ⟨_, rfl⟩
  obtain ⟨pw, cw, rfl, hcw⟩ := gr_form ho
  by_cases hkn : k < d
  case pos =>
    have hkn' : (k : Int) < (d : Int) := by omega
    have hkl : k * ln + ln ≤ TL := by
      have := Nat.mul_le_mul_right ln (show k + 1 ≤ d by omega)
      rw [Nat.add_mul, Nat.one_mul, unhide HTL] at this
      exact this
    have hmu : (k : Int) * (ln : Int) = ((k * ln : Nat) : Int) := by rw [Int.natCast_mul]
    obtain ⟨lo, hlo⟩ : ∃ q, k * ln = q := ⟨_, rfl⟩
    rw [hlo] at hkl hmu
    obtain ⟨hw1, hw2⟩ := wrap_two lo ln (Nat.le_trans hkl hTL2)
    have hsl2 := slice_str b lo ln (by rw [hbz]; exact hkl)
    have HO := hide (show (wi.alloc (.cells #[.string (b.extract lo (lo + ln))] 9)).ownsRow w1.heap.size 9 1 (.slice pw k cw) k (((List.range k).map (fun i => b.extract (i * ln) (i * ln + ln))).map Value.string) from ho.alloc _)
    have HB := hide hb
    have hsz := hb.size
    have HLO := hide hlo
    clear ho hb hcw hlo hkl hTL2 hbz
    go_wp2_with (refine wpList_append_lies _ rfl (.tmp 37) (.tmp 48) 38 rfl w1.heap.size 9 i0 (.string ⟨#[]⟩) 1 16 Try.underlying38 (unhide HI).1 (unhide HI).2.1 (unhide HI).2.2.1 (unhide HI).2.2.2 rfl (by decide) _ k _ rfl (unhide HO) ⟨wi.heap.size, 0, none⟩ 1 1 [.string (b.extract lo (lo + ln))] rfl rfl (fun q u hu => gr_new wi 9 _ q u hu) (by simp [Value.oneCell']) (by decide) (by unfold maxLen; omega) (by omega) (by simp; omega) (wi.heap.size + 1) (by simp) ?_)
    intro g5 cap5 x5 ho5 hg5 _ _
    have HN := hide (show x5.ownsRow w1.heap.size 9 1 (.slice (some ⟨g5, 0, none⟩) (k + 1) cap5) (k + 1) (((List.range (k + 1)).map (fun i => b.extract (i * ln) (i * ln + ln))).map Value.string) ∧ Below w1.heap.size w1 x5 from ⟨by
      rw [List.range_succ, List.map_append, List.map_append, List.map_singleton, List.map_singleton, unhide HLO, List.map_map]
      exact ho5, ((unhide HB).alloc (unhide HB).size _).grown hg5 (by simp; omega) (fun q hq => ((unhide HO).lt q hq).1)⟩)
    clear ho5 hg5 HO HB
    go_wp2
    go_roundw
    case rel => exact ⟨k + 1, by omega, by go_num, (unhide HN).1, (unhide HN).2⟩
    case measure => simp [intOf]; omega
  obtain rfl : k = d := by omega
  have hkn' : ¬ (k : Int) < (k : Int) := by omega
  rw [← unhide HDI] at ho
  obtain ⟨gl, rfl, _, _, hgl3, hgl4⟩ := gr_cell ho 0 (by omega)
  have HLD := hide (And.intro ho hb)
  have hsz := hb.size
  have hgl5 : gl < wi.heap.size := hgl4
  have HE0 := hide (show (wi.alloc (.cells #[] 9)).ownsRow wi.heap.size 9 1 (.slice (some ⟨wi.heap.size, 0, none⟩) 0 0) 0 [] from ⟨rfl, .inr ⟨wi.heap.size, 0, #[], rfl, Nat.le_refl _, Blk.new wi 9 #[], Nat.le_refl _, by unfold maxLen; omega, rfl, rfl⟩⟩)
  have HSRC := hide (show ∀ (j : Nat) u, ((spD s k).map Value.string)[j]? = some u → (wi.alloc (.cells #[] 9)).cell? ((⟨gl, 0, none⟩ : Addr).add j) = some u from fun j u hu => by
    obtain ⟨gx, ex, h1, _, _, _⟩ := gr_cell ho j (by
      have := (List.getElem?_eq_some_iff.1 hu).1
      rw [List.length_map, (unhide HSD).1] at this
      exact this)
    obtain rfl : gx = gl := by injection ex with e; injection e with e; exact e.symm
    rw [Addr.add_mid, Nat.zero_add, World.cell?_alloc_lt _ _ _ hgl4, h1, hu])
  clear ho hb hcw hgl4
  go_wp2_with (refine wpList_append_own _ rfl (.tmp 50) (.tmp 51) 38 rfl wi.heap.size 9 i0 (.string ⟨#[]⟩) 1 16 Try.underlying38 (unhide HI).1 (unhide HI).2.1 (unhide HI).2.2.1 (unhide HI).2.2.2 rfl (by decide) _ 0 [] rfl (unhide HE0) ⟨gl, 0, none⟩ k cw ((spD s k).map Value.string) rfl (by rw [List.length_map, (unhide HSD).1]; omega) (unhide HSRC) (by simp [Value.oneCell']) (by unfold maxLen; omega) (by omega) (by simp) ?_)
  intro v2 w2 ho2 hg2 _
  have ho2' : w2.ownsRow wi.heap.size 9 1 v2 k ((spD s k).map Value.string) := by simpa using ho2
  have hb2 : Below wi.heap.size wi w2 := ((Below.refl _ wi).alloc (Nat.le_refl _) _).grown hg2 (by simp) (fun q hq => by
    have := ((unhide HE0).lt q hq).1
    exact this)
  obtain ⟨p2, c2, rfl, _⟩ := gr_form ho2'
  have HX2 := hide (show w2.ownsRow wi.heap.size 9 1 (.slice p2 k c2) (k + 0) ((spD s k ++ (List.range 0).map (fun j => shT k (k + j) ln (spD s k))).map Value.string) ∧ Below wi.heap.size wi w2 from ⟨by simpa using ho2', hb2⟩)
  clear ho2 hg2 ho2' hb2 HE0 HSRC
  go_wp2
  go_loopw [13, 14] (fun u x wr => ∃ t : Nat, t ≤ r ∧ x = .int .i64 ((k + t : Nat) : Int) ∧ wr.ownsRow wi.heap.size 9 1 u (k + t) ((spD s k ++ (List.range t).map (fun j => shT k (k + j) ln (spD s k))).map Value.string) ∧ Below wi.heap.size wi wr) (fun _ x _ => k + r - (intOf x).toNat)
  case atStart => exact ⟨0, by omega, rfl, (unhide HX2).1, (unhide HX2).2⟩
  case round =>
  obtain ⟨t, ht, rfl, ho, hb⟩ := hrel
  obtain ⟨wj, rfl⟩ : ∃ q, q = wr := ⟨_, rfl⟩
  obtain ⟨pw, cx, rfl, hcx⟩ := gr_form ho
  clear HX2
  by_cases htr : t < r
  case pos =>
    have htr' : ((k + t : Nat) : Int) < (k : Int) + (r : Int) := by omega
    have HSH := hide (rshard_any wj (spD s k) wi.heap.size k (k + t) ln cw (some ⟨gl, 0, none⟩) (unhide HSD).1 hd1 hd2 (by omega) (by omega) (unhide HSD).2 ((own_gtx (unhide HSD).1 (unhide HLD).1).below hb) hb.size)
    have HO := hide (And.intro ho hb)
    have hsj := hb.size
    obtain ⟨kt, hkt⟩ : ∃ q, k + t = q := ⟨_, rfl⟩
    obtain ⟨X, hX⟩ : ∃ q, shT k (k + t) ln (spD s k) = q := ⟨_, rfl⟩
    rw [hX] at HSH
    rw [hkt] at HSH HO htr' ⊢
    have HKT := hide (And.intro hkt hX)
    have hkt3 : kt ≤ 24 := by omega
    clear ho hb hcx hkt hX
    go_wp2_with fail
    refine (unhide HSH).mono ?_
    rintro e y1 ⟨rfl, hy1⟩
    have HA := hide (show (y1.alloc (.cells #[.string X] 9)).ownsRow wi.heap.size 9 1 (.slice pw kt cx) kt ((spD s k ++ (List.range t).map (fun j => shT k (k + j) ln (spD s k))).map Value.string) from (owns_only (unhide HO).1 (Only.of_below (P := fun _ => False) hy1) (fun _ _ q => q)).alloc _)
    have HB := hide (show Below wi.heap.size wi y1 from (unhide HO).2.trans (hy1.mono hsj))
    have hsy := (unhide HB).size
    clear hy1 HO HSH
    go_wp2_with (refine wpList_append_lies _ rfl (.tmp 64) (.tmp 66) 38 rfl wi.heap.size 9 i0 (.string ⟨#[]⟩) 1 16 Try.underlying38 (unhide HI).1 (unhide HI).2.1 (unhide HI).2.2.1 (unhide HI).2.2.2 rfl (by decide) _ kt _ rfl (unhide HA) ⟨y1.heap.size, 0, none⟩ 1 1 [.string X] rfl rfl (fun q u hu => gr_new y1 9 _ q u hu) (by simp [Value.oneCell']) (by decide) (by unfold maxLen; omega) (by omega) (by simp; omega) (y1.heap.size + 1) (by simp) ?_)
    intro g5 cap5 x5 ho5 hg5 _ _
    have HN := hide (show x5.ownsRow wi.heap.size 9 1 (.slice (some ⟨g5, 0, none⟩) (kt + 1) cap5) (k + (t + 1)) ((spD s k ++ (List.range (t + 1)).map (fun j => shT k (k + j) ln (spD s k))).map Value.string) ∧ Below wi.heap.size wi x5 from ⟨by
      rw [List.range_succ, List.map_append (l₂ := [t]), List.map_singleton, (unhide HKT).2, ← List.append_assoc, List.map_append (l₂ := [X]), List.map_singleton, ← Nat.add_assoc, (unhide HKT).1, List.map_append, List.map_map, List.append_assoc]
      exact ho5, ((unhide HB).alloc (unhide HB).size _).grown hg5 (by simp; omega) (fun q hq => ((unhide HA).lt q hq).1)⟩)
    clear ho5 hg5 HA HB
    have hkt4 : kt = k + t := (unhide HKT).1.symm
    go_wp2
    go_roundw
    case rel => exact ⟨t + 1, by omega, by go_num, (unhide HN).1, (unhide HN).2⟩
    case measure => simp [intOf]; omega
  obtain rfl : t = r := by omega
  have htr' : ¬ ((k + t : Nat) : Int) < (k : Int) + (t : Int) := by omega
  have HF := hide (show wj.ownsRow w.heap.size 9 1 (.slice pw (k + t) cx) (k + t) ((spL s k t).map Value.string) ∧ Below w.heap.size w wj from by
    have hs1 := (unhide HW1).size
    refine ⟨?_, (unhide HW1).trans (((unhide HLD).2.trans (hb.mono hsz)).mono hs1)⟩
    rw [unhide HLI]
    exact gr_mono ho (by omega))
  clear ho hb hcx
  go_wp2
  go_ret2
  exact unhide HQ _ _ (unhide HF).1 (unhide HF).2
end Go.Proofs.Ytmnbfkehepccfaa
