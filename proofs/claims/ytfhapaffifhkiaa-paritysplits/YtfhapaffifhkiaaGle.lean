import Derived.Test.YtfhapaffifhkiaaGld
namespace Go.Proofs.Ytfhapaffifhkiaa
open Go.RowKit
set_option maxRecDepth 100000
/-- what Split's list is, its error -/
def spA (s : ByteArray) (n m : Int) : List ByteArray := if cntB n m = true ∧ s.size ≤ 60000 then spL s n.toNat m.toNat else []
def spE' (s : ByteArray) (n m : Int) : Int := if cntB n m = true then (if s.size ≤ 60000 then 0 else 183) else 180
theorem spA_len (s : ByteArray) (n m : Int) : (spA s n m).length ≤ 24 := by
  unfold spA
  by_cases h : cntB n m = true ∧ s.size ≤ 60000
  · rw [if_pos h]
    obtain ⟨h1, h2, h3, h4⟩ := of_decide_eq_true h.1
    simp [spL, spD_len]
    omega
  · rw [if_neg h]; exact Nat.zero_le _
theorem spl_of {w : World} {s : ByteArray} {n m : Int} {e : Ending} {w' : World} (h : SplQ w s n m e w') : ∃ p c, e = .returned (.tuple #[.slice p (spA s n m).length c, .int .i64 (spE' s n m)]) ∧ w'.ownsRow w.heap.size 9 1 (.slice p (spA s n m).length c) (spA s n m).length ((spA s n m).map Value.string) ∧ Below w.heap.size w w' := by
  obtain ⟨hb, h1, h2, h3⟩ := h
  unfold spA spE'
  cases hc : cntB n m with
  | false =>
    have e1 := h1 hc
    refine ⟨none, 0, ?_, ?_, hb⟩
    · rw [e1]; simp
    · simp; exact World.ownsRow_nil _ _ _ _
  | true =>
    by_cases hs : s.size ≤ 60000
    · obtain ⟨v, e3, ho⟩ := h3 hc hs
      have hl : (spL s n.toNat m.toNat).length = n.toNat + m.toNat := by simp [spL, spD_len]
      obtain ⟨p, c, rfl, _⟩ := gr_form ho
      refine ⟨p, c, ?_, ?_, hb⟩
      · rw [e3, if_pos ⟨rfl, hs⟩, if_pos rfl, if_pos hs, hl]
      · rw [if_pos ⟨rfl, hs⟩, hl]
        exact ho
    · have e2 := h2 hc (by omega)
      refine ⟨none, 0, ?_, ?_, hb⟩
      · rw [e2, if_neg (fun q => hs q.2), if_pos rfl, if_neg hs]; rfl
      · rw [if_neg (fun q => hs q.2)]; exact World.ownsRow_nil _ _ _ _
/-- the texts that are asked for -/
def asT (s : ByteArray) (i : Nat) : ByteArray := if i = 2 then s ++ ⟨#[120]⟩ else s
theorem asT_size (s : ByteArray) (i : Nat) : (asT s i).size ≤ s.size + 1 := by
  unfold asT
  split
  · rw [ByteArray.size_append]; exact Nat.le_refl _
  · omega
theorem gr_strrow : (Try.prog.info? 38).map (fun i => (i.zero, i.size, i.bytes)) = some (some (.slice none 0 0), 1, 24) := by kernel_rfl
theorem own_gtx0 {w : World} {base n c : Nat} {p : Option Addr} {L : List ByteArray} {B : Nat} (hn : L.length = n) (h : w.ownsRow base 9 1 (.slice p n c) n (L.map Value.string)) (hB : w.heap.size ≤ B) : GTx w B p L := fun j hj => by
  obtain ⟨g, o, e, hg, hc⟩ := own_gtx hn h j hj
  exact ⟨g, o, e, by omega, hc⟩
set_option maxHeartbeats 16000000 in
theorem splits18 (s : ByteArray) (n m : Int) (hs : s.size ≤ 140737488351232) (W : World) : Calls Try.prog 6 #[.string s, .int .i64 n, .int .i64 m] W fun e w' => e = .returned (.bool true) ∧ Below W.heap.size W w' := by
  have HK := hide (known18 W)
  have HRS := hide (fun (W : World) (i : Nat) => rsplit_any W (asT s i) n m (by have := asT_size s i; omega))
  have HPS := hide (fun (W : World) (i : Nat) => psplit_any W (asT s i) n m)
  obtain ⟨i9, hi, hz0, hz1, hz2⟩ := info_parts gr_strrow
  have HJ := hide (And.intro hi (And.intro hz0 (And.intro hz1 hz2)))
  clear hi hz0 hz1 hz2
  have hcat : ¬ 9223372036854775807 < s.size + 1 := by omega
  obtain ⟨sx, hsx⟩ : ∃ q, s ++ (⟨#[120]⟩ : ByteArray) = q := ⟨_, rfl⟩
  have HAT := hide (show asT s 0 = s ∧ asT s 1 = s ∧ asT s 2 = sx ∧ asT s 3 = s from ⟨rfl, rfl, hsx, rfl⟩)
  go_enter Try.func6, Try.ntmps6
  go_wp2_with fail
  refine (unhide HK).mono ?_
  rintro e w1 ⟨rfl, hb1⟩
  have HB1 := hide hb1
  have hs1 := hb1.size
  clear hb1 HK
  obtain ⟨wa, hwa⟩ : ∃ q, w1.alloc (.cells #[.string s, .string s, .string sx, .string s] 9) = q := ⟨_, rfl⟩
  have HA := hide (show Below w1.heap.size w1 wa ∧ w1.heap.size < wa.heap.size ∧ ∀ i, i < 4 → wa.cell? ⟨w1.heap.size, i, none⟩ = some (.string (asT s i)) from by
    subst hwa
    refine ⟨(Below.refl _ _).alloc (Nat.le_refl _) _, by simp, fun i hi => ?_⟩
    rw [(Blk.new w1 9 _).cell]
    obtain ⟨a0, a1, a2, a3⟩ := unhide HAT
    rcases (by omega : i = 0 ∨ i = 1 ∨ i = 2 ∨ i = 3) with rfl | rfl | rfl | rfl
    · rw [a0]; rfl
    · rw [a1]; rfl
    · rw [a2]; rfl
    · rw [a3]; rfl)
  have hwas := (unhide HA).2.1
  go_wp2
  clear hwa hsx
  obtain ⟨ga, hga⟩ : ∃ q, w1.heap.size = q := ⟨_, rfl⟩
  rw [hga] at HA hwas hs1 ⊢
  clear hga
  go_loopw [9, 10] (fun u i wr => ∃ (k : Nat) (v : Nat → Value), k ≤ 4 ∧ i = .int .i64 (k : Int) ∧ Hid (RR wa.heap.size 38 9 wr u k v (fun i => (spA (asT s i) n m).map Value.string) ∧ Below wa.heap.size wa wr)) (fun _ i _ => 4 - (intOf i).toNat)
  case atStart => exact ⟨0, fun _ => .slice none 0 0, by omega, rfl, hide ⟨RR.new _ _ _ _ _ _, Below.refl _ _⟩⟩
  case round =>
  obtain ⟨k, v, hk, rfl, HR⟩ := hrel
  obtain ⟨wk, rfl⟩ : ∃ q, q = wr := ⟨_, rfl⟩
  obtain ⟨pu, cu, rfl, _⟩ := gr_form (unhide HR).1.row
  have hks := (unhide HR).2.size
  by_cases hk4 : k < 4
  case pos =>
    have hk4' : (k : Int) < 4 := by omega
    have hck : wk.cell? ⟨ga, k, none⟩ = some (.string (asT s k)) := ((unhide HR).2.cell (p := ⟨ga, k, none⟩) hwas).trans ((unhide HA).2.2 k hk4)
    have HR1 := hide (unhide HRS wk k)
    have HP1 := hide (fun W => unhide HPS W k)
    have hal := spA_len (asT s k) n m
    obtain ⟨A, hA⟩ : ∃ q, spA (asT s k) n m = q := ⟨_, rfl⟩
    have HAE := hide hA
    rw [hA] at hal
    obtain ⟨X, hX⟩ : ∃ q, asT s k = q := ⟨_, rfl⟩
    rw [hX] at HR1 HP1 hck
    have HXE := hide hX
    clear hA hX
    go_wp2_with fail
    refine (unhide HR1).mono ?_
    intro e x1 hq1
    obtain ⟨p1, c1, rfl, ho1, hb1⟩ := spl_of hq1
    have hcx1 : x1.cell? ⟨ga, k, none⟩ = some (.string X) := (hb1.cell (p := ⟨ga, k, none⟩) (by show ga < wk.heap.size; omega)).trans hck
    have hAX : spA X n m = A := by rw [← unhide HXE]; exact unhide HAE
    rw [hAX] at ho1 ⊢
    obtain ⟨er, her⟩ : ∃ q, spE' X n m = q := ⟨_, rfl⟩
    have HER := hide her
    rw [her]
    have HO1 := hide (And.intro ho1 hb1)
    obtain ⟨al, hAl⟩ : ∃ q, A.length = q := ⟨_, rfl⟩
    have HAL := hide hAl
    rw [hAl] at hal ⊢
    clear ho1 hb1 hq1 her HR1 hck hAl
    go_wp2_with fail
    refine (unhide HP1 _).mono ?_
    intro e x2 hq2
    obtain ⟨p2, c2, rfl, ho2, hb2⟩ := spl_of hq2
    rw [hAX, unhide HAL] at ho2
    rw [unhide HER, hAX, unhide HAL]
    have hx1s := (unhide HO1).2.size
    have hx2s := hb2.size
    have HST := hide (texts18_any x2 p2 p1 c2 c1 A A al al (unhide HAL).symm (unhide HAL).symm (by omega) (own_gtx (unhide HAL) ho2) (by
      have h9 := (unhide HO1).1
      rw [unhide HAL] at h9
      exact own_gtx (unhide HAL) (owns_only h9 (Only.of_below (P := fun _ => False) hb2) (fun _ _ q => q))))
    rw [dec_true (rfl : A = A)] at HST
    have HO2 := hide (And.intro ho2 hb2)
    clear ho2 hb2 hq2 hAX
    have hee : (er != er) = false := by simp
    go_wp2_with fail
    refine (unhide HST).mono ?_
    rintro e x3 ⟨rfl, hb3⟩
    have hx3s := hb3.size
    have HB3 := hide (show Below wk.heap.size wk x3 from ((unhide HO1).2.trans ((unhide HO2).2.mono hx1s)).trans (hb3.mono (by omega)))
    have HX := hide (show x3.ownsRow x1.heap.size 9 1 (.slice p2 al c2) al (A.map Value.string) from owns_only (unhide HO2).1 (Only.of_below (P := fun _ => False) hb3) (fun _ _ q => q))
    have HR2 := hide ((((unhide HR).1.below (unhide HB3)).congrV (x := fun i => if i = k then .slice p2 al c2 else v i) (fun i hi => by rw [if_neg (by omega)])).below ((Below.refl _ x3).alloc (Nat.le_refl _) (.cells #[.slice p2 al c2] 38)))
    have HRO := hide (unhide HR2).row
    clear hb3 HST HO1 HO2
    go_wp2_with (refine wpList_append_lies _ rfl (.tmp 63) (.tmp 65) 39 rfl wa.heap.size 38 i9 (.slice none 0 0) 1 24 Try.underlying39 (unhide HJ).1 (unhide HJ).2.1 (unhide HJ).2.2.1 (unhide HJ).2.2.2 rfl (by decide) _ k _ rfl (unhide HRO) ⟨x3.heap.size, 0, none⟩ 1 1 [.slice p2 al c2] rfl rfl (fun q u hu => gr_new x3 38 _ q u hu) (by simp [Value.oneCell']) (by decide) (by unfold maxLen; omega) (by omega) (by simp; omega) (x3.heap.size + 1) (by simp) ?_)
    intro g3 c3 w3 ho3 hg3 _ _
    have HN := hide (show RR wa.heap.size 38 9 w3 (.slice (some ⟨g3, 0, none⟩) (k + 1) c3) (k + 1) (fun i => if i = k then .slice p2 al c2 else v i) (fun i => (spA (asT s i) n m).map Value.string) ∧ Below wa.heap.size wa w3 from by
      have hwb : Below wa.heap.size wa x3 := (unhide HR).2.trans ((unhide HB3).mono hks)
      refine ⟨(unhide HR2).push (by decide) (.slice p2 al c2) (A.map Value.string) ?_ ?_ (by simp) (by rw [unhide HAE]) ho3 hg3, (hwb.alloc hwb.size _).grown hg3 (by have := hwb.size; simp; omega) (fun q hq => ((unhide HRO).lt q hq).1)⟩
      · rw [List.length_map, unhide HAL]
        exact gr_mono ((unhide HX).alloc _) (by omega)
      · intro i hi y hy q
        rw [if_neg (by omega)] at hy
        have h1 := (((unhide HR).1.own i hi).lt y hy).2
        have h2 := ((unhide HX).lt y q).1
        omega)
    clear ho3 hg3 HR2 HRO HX HB3
    go_wp2
    go_roundw
    case rel => exact ⟨k + 1, _, by omega, by go_num, HN⟩
    case measure => simp [intOf] <;> omega
  have hke : k = 4 := by omega
  have hk4' : ¬ (k : Int) < 4 := by omega
  have HR4 := hide (show RR wa.heap.size 38 9 wk (.slice pu 4 cu) 4 v (fun i => (spA (asT s i) n m).map Value.string) ∧ Below wa.heap.size wa wk from by
    have h9 := unhide HR
    rw [hke] at h9
    exact h9)
  obtain ⟨gu, rfl, _, _, _, _⟩ := (unhide HR4).1.at 0 (by omega)
  have hkI : (k : Int) = 4 := by omega
  have hke2 := hide hke
  clear HR hk hk4 hke
  go_wp2
  clear hk4' hkI
  go_loopw [16] (fun i wr => ∃ j : Nat, j ≤ 4 ∧ i = .int .i64 (j : Int) ∧ Hid (Below wk.heap.size wk wr)) (fun i _ => 4 - (intOf i).toNat)
  case atStart => exact ⟨0, by omega, rfl, hide (Below.refl _ _)⟩
  case round =>
  obtain ⟨j, hj, rfl, HB⟩ := hrel
  obtain ⟨wj, rfl⟩ : ∃ q, q = wr := ⟨_, rfl⟩
  have hjs := (unhide HB).size
  by_cases hj4 : j < 4
  case pos =>
    have hj4' : (j : Int) < 4 := by omega
    have hj5 : (j : Int) < (k : Int) := by have := unhide hke2; omega
    have hck : wj.cell? ⟨ga, j, none⟩ = some (.string (asT s j)) := ((unhide HB).cell (p := ⟨ga, j, none⟩) (by show ga < wk.heap.size; omega)).trans (((unhide HR4).2.cell (p := ⟨ga, j, none⟩) hwas).trans ((unhide HA).2.2 j hj4))
    have HR1 := hide (unhide HRS wj j)
    have hal := spA_len (asT s j) n m
    obtain ⟨A, hA⟩ : ∃ q, spA (asT s j) n m = q := ⟨_, rfl⟩
    have HAE := hide hA
    rw [hA] at hal
    obtain ⟨X, hX⟩ : ∃ q, asT s j = q := ⟨_, rfl⟩
    rw [hX] at HR1 hck
    have HXE := hide hX
    clear hA hX
    go_wp2_with fail
    refine (unhide HR1).mono ?_
    intro e x1 hq1
    obtain ⟨p1, c1, rfl, ho1, hb1⟩ := spl_of hq1
    have hAX : spA X n m = A := by rw [← unhide HXE]; exact unhide HAE
    rw [hAX] at ho1 ⊢
    obtain ⟨al, hAl⟩ : ∃ q, A.length = q := ⟨_, rfl⟩
    have HAL := hide hAl
    rw [hAl] at hal ho1 ⊢
    obtain ⟨er, her⟩ : ∃ q, spE' X n m = q := ⟨_, rfl⟩
    rw [her]
    have hRx := ((unhide HR4).1.below (unhide HB)).below hb1
    obtain ⟨gu2, eu, hcj, _, _, _⟩ := hRx.at j hj4
    obtain rfl : gu2 = gu := by injection eu with e; injection e with e; exact e.symm
    have hrj := hRx.own j hj4
    rw [unhide HAE, List.length_map, unhide HAL] at hrj
    obtain ⟨pj, cj, hvj, _⟩ := gr_form hrj
    rw [hvj] at hcj hrj
    have HST := hide (texts18_any x1 pj p1 cj c1 A A al al (unhide HAL).symm (unhide HAL).symm (by omega) (own_gtx (unhide HAL) hrj) (own_gtx (unhide HAL) ho1))
    rw [dec_true (rfl : A = A)] at HST
    have HBx := hide (show Below wk.heap.size wk x1 from (unhide HB).trans (hb1.mono hjs))
    have hx1s := hb1.size
    clear ho1 hb1 hq1 her HR1 hck hAl hRx hrj hvj eu hAX
    go_wp2_with fail
    refine (unhide HST).mono ?_
    rintro e x3 ⟨rfl, hb3⟩
    have HN := hide (show Below wk.heap.size wk x3 from (unhide HBx).trans (hb3.mono (by omega)))
    clear hb3 HST HBx
    go_wp2
    go_roundw
    case rel => exact ⟨j + 1, by omega, by go_num, HN⟩
    case measure => simp [intOf] <;> omega
  have hj4' : ¬ (j : Int) < 4 := by omega
  have hj5 : ¬ (j : Int) < (k : Int) := by have := unhide hke2; omega
  have HOW := hide (owned18 wj wa.heap.size 4 gu cu v _ (fun i => (spA (asT s i) n m).length) (by omega) (Nat.le_trans hks hjs) ((unhide HR4).1.below (unhide HB)) (fun i _ => by simp) (fun i => spA_len _ _ _))
  have HBF := hide (show ∀ w', Below wa.heap.size wj w' → Below W.heap.size W w' from fun w' h => (unhide HB1).trans (((unhide HA).1.trans (((unhide HR4).2.trans (((unhide HB).mono hks).trans h)).mono (by omega))).mono hs1))
  have hk44 := unhide hke2
  subst hk44
  clear HR4 HB
  go_wp2_with fail
  refine (unhide HOW).mono ?_
  rintro e w9 ⟨rfl, hb9⟩
  have HF := hide (unhide HBF _ hb9)
  clear hb9
  go_wp2
  go_ret
  exact ⟨rfl, unhide HF⟩
end Go.Proofs.Ytfhapaffifhkiaa
