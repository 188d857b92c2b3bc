import Derived.Test.YtpjoibolhkgkhaaGreatDoorWok
import Derived.Test.YtpjoibolhkgkhaaGreatDoorMkq
import Derived.Test.YtpjoibolhkgkhaaGreatDoorShf
import Derived.Test.YtpjoibolhkgkhaaGreatDoorXfj
namespace Go.Proofs.YtpjoibolhkgkhaaGreatDoor
open Go.RowKit
/-- strings.Repeat of one nought. -/
def RepOk : Prop := ∀ (c : Nat) (W : World), c ≤ 244 → Calls Tryz.prog 87 #[.string ⟨#[0]⟩, .int .i64 (c : Int)] W fun e w' => e = .returned (.string (strOfNums (List.replicate c 0))) ∧ Below W.heap.size W w'
def pageV (kind number : Int) (body : ByteArray) : Value := .agg #[.int .i64 kind, .int .i64 number, .string body]
end Go.Proofs.YtpjoibolhkgkhaaGreatDoor
namespace Go.Proofs.YtpjoibolhkgkhaaGreatDoor
open Go.RowKit
theorem rep_zero (c : Nat) : (⟨(Lib.repeatL (ByteArray.mk #[0]).data.toList c).toArray⟩ : ByteArray) = strOfNums (List.replicate c 0) := by
  have h : Lib.repeatL (ByteArray.mk #[0]).data.toList c = List.replicate c 0 := by
    have := Lib.repeatL_replicate 0 1 c
    rw [Nat.mul_one] at this
    exact this
  rw [h, strOfNums]
  simp
theorem rep_ok : RepOk := by
  intro c W hc
  have h := Tryz.strings_Repeat ⟨#[0]⟩ c W (by omega) (by show 1 * c ≤ _; omega)
  rw [rep_zero] at h
  exact h
end Go.Proofs.YtpjoibolhkgkhaaGreatDoor
namespace Go.Proofs.YtpjoibolhkgkhaaGreatDoor
open Go.RowKit
set_option maxRecDepth 100000
/-- numbers at a place, in blocks below B -/
def Lst (w : World) (B : Nat) (p : Option Addr) (L : List Int) : Prop := ∀ j, j < L.length → ∃ g o, p = some ⟨g, o, none⟩ ∧ g < B ∧ w.cell? ⟨g, o + j, none⟩ = some (.int .i64 (L.getD j 0))
theorem Lst.below {w w' : World} {B : Nat} {p : Option Addr} {L : List Int} (h : Lst w B p L) (hb : Below B w w') : Lst w' B p L := fun j hj => by
  obtain ⟨g, o, e, hg, hc⟩ := h j hj
  exact ⟨g, o, e, hg, (hb.cell (p := ⟨g, o + j, none⟩) hg).trans hc⟩
theorem Lst.mono {w : World} {B B' : Nat} {p : Option Addr} {L : List Int} (h : Lst w B p L) (hB : B ≤ B') : Lst w B' p L := fun j hj => by
  obtain ⟨g, o, e, hg, hc⟩ := h j hj
  exact ⟨g, o, e, by omega, hc⟩
theorem Lst.nil (w : World) (B : Nat) (p : Option Addr) : Lst w B p [] := fun j hj => absurd hj (by simp)
theorem noughts_any (n : Nat) (hn : n ≤ 1000) (w : World) : Calls Tryz.prog 65 #[.int .i64 (n : Int)] w fun e w' => e = .returned (.string (strOfNums (List.replicate n 0))) ∧ Below w.heap.size w w' := by
  have h := Tryz.strings_Repeat ⟨#[0]⟩ n w (by omega) (by show 1 * n ≤ _; omega)
  rw [rep_zero] at h
  have HR := hide h
  clear h
  generalize strOfNums (List.replicate n 0) = S at *
  go_enter Tryz.func65, Tryz.ntmps65
  go_wp2_with fail
  refine (unhide HR).mono ?_
  rintro e z ⟨rfl, hz⟩
  have HZ := hide hz
  clear hz HR
  go_wp2
  go_ret
  exact ⟨rfl, unhide HZ⟩
/-- numbers of volumes that rise -/
def areV (L : List Int) : Bool := decide (∀ k, k < L.length → (1 ≤ L.getD k 0 ∧ L.getD k 0 ≤ 99) ∧ (0 < k → L.getD (k - 1) 0 < L.getD k 0))
def plB (L : List Int) : Bool := decide (L.length = 8 ∧ ∀ k, k < L.length → 0 ≤ L.getD k 0 ∧ L.getD k 0 ≤ 255)
def voB (L : List Int) : Bool := decide (L.length ≤ 8) && areV L
def voL (L : List Int) : List Int := numB (L.length : Int) 1 ++ outN 1 L ++ List.replicate (8 - L.length) 0
theorem fld_vol (W : World) : (Instr.field 138 (.agg tabC) 3).run Tryz.prog W = .ok (.agg #[.int .i64 1, .int .i64 1, .int .i64 99]) W := by kernel_rfl
set_option maxHeartbeats 2000000 in
theorem areVolumes_any (w : World) (B : Nat) (p : Option Addr) (cap n : Nat) (L : List Int) (hL : L.length = n) (h : Lst w B p L) (hB : B ≤ w.heap.size) (hn : n ≤ 8) : Calls Tryz.prog 144 #[.slice p n cap] w fun e w' => e = .returned (.bool (areV L)) ∧ Below w.heap.size w w' := by
  have HA := hide (allFields_any w)
  have HL := hide h
  have HN := hide hL
  have HF := hide fld_vol
  have HM := hide (fun (x : Int) (W : World) => mayBe_any 1 1 99 x W)
  have HV := hide (show areV L = decide (∀ k, k < L.length → (1 ≤ L.getD k 0 ∧ L.getD k 0 ≤ 99) ∧ (0 < k → L.getD (k - 1) 0 < L.getD k 0)) from rfl)
  obtain ⟨R, hR⟩ : ∃ R, areV L = R := ⟨_, rfl⟩
  rw [hR] at HV ⊢
  clear h hL hR
  go_enter Tryz.func144, Tryz.ntmps144
  go_wp2_with fail
  refine (unhide HA).mono ?_
  rintro e z ⟨rfl, hz⟩
  have hgv := unhide HF z
  have hb0 : Below w.heap.size w (z.alloc (.cells #[.int .i64 1, .int .i64 1, .int .i64 99] 124)) := hz.alloc (by exact hz.size) _
  have HB0 := hide (And.intro hb0 (show Blk (z.alloc (.cells #[.int .i64 1, .int .i64 1, .int .i64 99] 124)) z.heap.size #[.int .i64 1, .int .i64 1, .int .i64 99] 124 from Blk.new _ _ _))
  have hzs := hz.size
  clear hz HA hb0
  go_wp2
  obtain ⟨Y, hY⟩ : ∃ Y, z.alloc (.cells #[.int .i64 1, .int .i64 1, .int .i64 99] 124) = Y := ⟨_, rfl⟩
  obtain ⟨g, hg⟩ : ∃ g, z.heap.size = g := ⟨_, rfl⟩
  rw [hY, hg] at HB0
  rw [hY, hg]
  clear hY hg hgv hzs
  go_loopw [10] (fun i wr => ∃ k : Nat, k ≤ n ∧ i = .int .i64 (k : Int) ∧ (∀ j, j < k → (1 ≤ L.getD j 0 ∧ L.getD j 0 ≤ 99) ∧ (0 < j → L.getD (j - 1) 0 < L.getD j 0)) ∧ Below w.heap.size w wr ∧ Blk wr g #[.int .i64 1, .int .i64 1, .int .i64 99] 124) (fun i _ => n - (intOf i).toNat)
  case atStart => exact ⟨0, by omega, rfl, fun j hj => absurd hj (by omega), (unhide HB0).1, (unhide HB0).2⟩
  case round =>
    obtain ⟨k, hk, rfl, hall, hb, hG⟩ := hrel
    clear HB0
    by_cases hkn : k < n
    · have i1 : (k : Int) < (n : Int) := by omega
      have i2 : 0 ≤ (k : Int) := by omega
      obtain ⟨gl, o, rfl, hgl, hc⟩ := (unhide HL).below (hb.mono hB) k (by rw [unhide HN]; exact hkn)
      obtain ⟨x, hx⟩ : ∃ x, L.getD k 0 = x := ⟨_, rfl⟩
      rw [hx] at hc
      have d0 : wr.cell? ⟨g, 0, none⟩ = some (.int .i64 1) := hG.cell 0
      have d1 : wr.cell? ⟨g, 1, none⟩ = some (.int .i64 1) := hG.cell 1
      have d2 : wr.cell? ⟨g, 2, none⟩ = some (.int .i64 99) := hG.cell 2
      have HX := hide hx
      have HG := hide (And.intro hall (And.intro hb hG))
      clear hx hall hb hG
      by_cases q1 : 1 ≤ x ∧ x ≤ 99
      · have HMX := hide (fun W => unhide HM x W)
        rw [decide_eq_true q1] at HMX
        go_wp2_with fail
        refine (unhide HMX _).mono ?_
        rintro e y ⟨rfl, hy⟩
        have HGy := hide (show Below w.heap.size w y ∧ Blk y g #[.int .i64 1, .int .i64 1, .int .i64 99] 124 from ⟨(unhide HG).2.1.trans (hy.mono (unhide HG).2.1.size), (unhide HG).2.2.below hy (unhide HG).2.2.lt⟩)
        clear hy d0 d1 d2 hc HMX
        rcases Nat.eq_zero_or_pos k with h0 | h0
        · have i3 : ¬ ((k : Int) > 0) := by omega
          go_wp2
          go_roundw
          case rel => exact ⟨k + 1, by omega, by go_num, fun j hj => (by
            by_cases e : j < k
            · exact (unhide HG).1 j e
            · obtain rfl : j = k := by omega
              rw [unhide HX]
              exact ⟨q1, fun q => absurd q (by omega)⟩), (unhide HGy).1, (unhide HGy).2⟩
          case measure => simp [intOf]; omega
        · obtain ⟨j, rfl⟩ : ∃ j, k = j + 1 := ⟨k - 1, by omega⟩
          have i3 : ((j + 1 : Nat) : Int) > 0 := by omega
          obtain ⟨gl', o', e', hgl', hc'⟩ := (unhide HL).below ((unhide HGy).1.mono hB) j (by rw [unhide HN]; omega)
          cases e'
          obtain ⟨x', hx'⟩ : ∃ x', L.getD j 0 = x' := ⟨_, rfl⟩
          rw [hx'] at hc'
          have HX' := hide hx'
          have w1 : IntKind.i64.wrap (((j + 1 : Nat) : Int) - 1) = (j : Int) := by rw [wrapI_eq _ (by omega) (by omega)]; omega
          have i4 : (j : Int) < (n : Int) := by omega
          have i5 : 0 ≤ (j : Int) := by omega
          clear hx'
          by_cases q2 : x ≤ x'
          · have HR := hide (show R = false from by
              rw [unhide HV]
              refine decide_eq_false (fun q => ?_)
              have := (q (j + 1) (by rw [unhide HN]; exact hkn)).2 (by omega)
              rw [Nat.add_sub_cancel, unhide HX, unhide HX'] at this
              omega)
            go_wp2
            go_ret
            exact ⟨by rw [unhide HR]; rfl, (unhide HGy).1⟩
          · go_wp2
            go_roundw
            case rel => exact ⟨j + 1 + 1, by omega, by go_num, fun i hi => (by
              by_cases e : i < j + 1
              · exact (unhide HG).1 i e
              · obtain rfl : i = j + 1 := by omega
                rw [Nat.add_sub_cancel, unhide HX, unhide HX']
                exact ⟨q1, fun q => by omega⟩), (unhide HGy).1, (unhide HGy).2⟩
            case measure => simp [intOf]; omega
      · have HMX := hide (fun W => unhide HM x W)
        rw [decide_eq_false q1] at HMX
        have HR := hide (show R = false from by
          rw [unhide HV]
          refine decide_eq_false (fun q => ?_)
          have := (q k (by rw [unhide HN]; exact hkn)).1
          rw [unhide HX] at this
          exact q1 this)
        go_wp2_with fail
        refine (unhide HMX _).mono ?_
        rintro e y ⟨rfl, hy⟩
        have hby := (unhide HG).2.1.trans (hy.mono (unhide HG).2.1.size)
        clear hy d0 d1 d2 hc HMX
        go_wp2
        go_ret
        exact ⟨by rw [unhide HR]; rfl, hby⟩
    · have i1 : ¬ ((k : Int) < (n : Int)) := by omega
      have HR := hide (show R = true from by
        rw [unhide HV]
        refine decide_eq_true (fun j hj => hall j ?_)
        rw [unhide HN] at hj
        omega)
      clear hall hG
      go_wp2
      go_ret
      exact ⟨by rw [unhide HR]; rfl, hb⟩
theorem fits_byte {x : Int} (h : 0 ≤ x ∧ x ≤ 255) : fitsP x 1 := ⟨h.1, Int.ediv_eq_zero_of_lt h.1 (by omega)⟩
/-- a row of numbers laid down -/
theorem numLK {w wr : World} {base b B : Nat} {v : Value} {l : List Int} (h : WPost base b v l 0 w wr) (hb : base ≤ w.heap.size) (p : Option Addr) (c n : Nat) (L : List Int) (hn : L.length = n) (hL : Lst wr B p L) (hB : B ≤ base) (hf : ∀ k, k < L.length → 0 ≤ L.getD k 0 ∧ L.getD k 0 ≤ 255) (hsz : l.length ≤ 1000) (h8 : n ≤ 8) :
    Calls Tryz.prog 29 #[.pointer (some ⟨b, 0, none⟩), .int .i64 1, .slice p n c] wr fun e w' => e = .returned (.tuple #[]) ∧ WPost base b v (l ++ outN 1 L) 0 w w' := by
  subst hn
  obtain ⟨v1, h1, h2, h3⟩ := h
  have hE : errN 1 L = 0 := by
    rw [errN, if_neg (by omega), if_pos]
    intro x hx
    obtain ⟨k, hk, rfl⟩ := List.getElem_of_mem hx
    have := hf k hk
    rw [List.getD_eq_getElem?_getD, List.getElem?_eq_getElem hk] at this
    exact fits_byte this
  have hs := h2.size
  refine (num_any wr base b v1 l 0 h1 (by omega) 1 L p c ?_ (by omega)).mono ?_
  · rcases Nat.eq_zero_or_pos L.length with h0 | h0
    · exact .inl (List.eq_nil_of_length_eq_zero h0)
    · obtain ⟨g, o, rfl, hg, _⟩ := hL 0 h0
      refine .inr ⟨g, o, rfl, by omega, fun q => ?_, fun j hj => ?_⟩
      · rcases q with q | q
        · have := h1.2.2
          omega
        · have := (h1.2.1.lt g q).1
          omega
      · obtain ⟨g', o', e, _, hc⟩ := hL j hj
        cases e
        exact hc
  · rintro e w' ⟨rfl, hp⟩
    rw [hE, wl_good, we_good] at hp
    exact ⟨rfl, WPost.trans h2 h3 hp⟩
end Go.Proofs.YtpjoibolhkgkhaaGreatDoor
namespace Go.Proofs.YtpjoibolhkgkhaaGreatDoor
open Go.RowKit
set_option maxRecDepth 100000
theorem WPost.up {w wr : World} {base b B : Nat} {v : Value} {l : List Int} {e : Int} (h : WPost base b v l e w wr) (hW : Wtr w base b v l e ∨ (base ≤ b ∧ ∀ k, v.ownBlock = some k → base ≤ k)) (hB : B ≤ base) (hs : B ≤ w.heap.size) : Below B w wr := by
  obtain ⟨v', h1, h2, h3⟩ := h
  have q : base ≤ b ∧ ∀ k, v.ownBlock = some k → base ≤ k := hW.elim (fun hW => ⟨hW.2.2, fun k hk => (hW.2.1.lt k hk).1⟩) id
  refine h2.below hs (fun k hk hf => ?_)
  rcases hf with hf | hf
  · have := q.1
    omega
  · have := q.2 k hf
    omega
set_option maxHeartbeats 2000000 in
theorem plLay_any {w wr : World} {base b B : Nat} {v : Value} {l : List Int} (h : WPost base b v l 0 w wr) (hb : base ≤ w.heap.size) (p : Prt) (L : List Int) (hm : L.length = p.m) (hL : Lst wr B p.p L) (hB : B ≤ base) (hsz : l.length ≤ 1000) (hm9 : p.m ≤ 9223372036854775807) :
    Calls Tryz.prog 137 #[.agg #[], .pointer (some ⟨b, 0, none⟩), .agg p.cs] wr fun e w' => e = .returned (.bool (plB L)) ∧ WPost base b v (if plB L = true then l ++ outN 1 L else l) 0 w w' := by
  obtain ⟨n, t, q, m, c⟩ := p
  have hs := h.size
  show Calls Tryz.prog 137 #[.agg #[], .pointer (some ⟨b, 0, none⟩), .agg #[.int .i64 n, .string t, .slice q m c]] wr fun e w' => e = .returned (.bool (plB L)) ∧ WPost base b v (if plB L = true then l ++ outN 1 L else l) 0 w w'
  simp only at hm hL hm9
  obtain ⟨B1, B2, hbl, hs2⟩ := two_boxes wr #[] #[.int .i64 n, .string t, .slice q m c] 135 103
  obtain ⟨g, hg⟩ : ∃ g, wr.heap.size = g := ⟨_, rfl⟩
  obtain ⟨y, hy⟩ : ∃ Z, (wr.alloc (.cells #[] 135)).alloc (.cells #[.int .i64 n, .string t, .slice q m c] 103) = Z := ⟨_, rfl⟩
  rw [hg] at B1 B2 hs2 hbl
  rw [hy] at B1 B2 hbl hs2
  have hWy := h.below (by rw [hg]; exact hbl)
  have hLy : Lst y B q L := hL.below (hbl.mono (by omega))
  have a3 : y.cell? ⟨g + 1, 2, none⟩ = some (.slice q m c) := by rw [B2.cell]; rfl
  have HN := hide hm
  have HLY := hide hLy
  have HWY := hide hWy
  have HV := hide (show plB L = decide (L.length = 8 ∧ ∀ k, k < L.length → 0 ≤ L.getD k 0 ∧ L.getD k 0 ≤ 255) from rfl)
  obtain ⟨R, hR⟩ : ∃ R, plB L = R := ⟨_, rfl⟩
  rw [hR] at HV ⊢
  obtain ⟨lx, hlx⟩ : ∃ lx, (if R = true then l ++ outN 1 L else l) = lx := ⟨_, rfl⟩
  rw [hlx]
  have HLX := hide hlx
  clear hlx
  clear B1 B2 hbl hs2 h hL hLy hWy hR hm
  by_cases hq : m = 8
  · have HNM := hide (fun (hf : ∀ k, k < L.length → 0 ≤ L.getD k 0 ∧ L.getD k 0 ≤ 255) => numLK (unhide HWY) hb q c m L (unhide HN) (unhide HLY) hB hf hsz (by omega))
    obtain ⟨l', hl'⟩ : ∃ l', l ++ outN 1 L = l' := ⟨_, rfl⟩
    rw [hl'] at HNM
    have HL' := hide hl'
    have hne : ((m : Int) != 8) = false := by simp; omega
    have HQ := hide hq
    clear hq hl'
    go_enter Tryz.func137, Tryz.ntmps137
    go_wp2
    clear hne
    go_loopw [16] (fun i wr2 => ∃ k : Nat, k ≤ m ∧ i = .int .i64 (k : Int) ∧ (∀ j, j < k → 0 ≤ L.getD j 0 ∧ L.getD j 0 ≤ 255) ∧ wr2 = y) (fun i _ => m - (intOf i).toNat)
    case atStart => exact ⟨0, by omega, rfl, fun j hj => absurd hj (by omega), rfl⟩
    case round =>
      obtain ⟨k, hk, rfl, hall, hw⟩ := hrel
      subst hw
      by_cases hkn : k < m
      · have i1 : (k : Int) < (m : Int) := by omega
        have i2 : 0 ≤ (k : Int) := by omega
        obtain ⟨gl, o, rfl, hgl, hc⟩ := unhide HLY k (by rw [unhide HN]; exact hkn)
        obtain ⟨x, hx⟩ : ∃ x, L.getD k 0 = x := ⟨_, rfl⟩
        rw [hx] at hc
        have HX := hide hx
        have HALL := hide hall
        clear hx hall
        have bad : ¬ (0 ≤ x ∧ x ≤ 255) → R = false := fun hn => by
          rw [unhide HV]
          refine decide_eq_false (fun q => hn ?_)
          have := q.2 k (by rw [unhide HN]; exact hkn)
          rw [unhide HX] at this
          exact this
        have HBAD := hide bad
        clear bad
        by_cases q1 : x < 0
        · have HR := hide (unhide HBAD (by omega))
          clear HBAD
          go_wp2
          go_ret
          exact ⟨by rw [unhide HR]; rfl, by rw [← unhide HLX, unhide HR, if_neg (by decide)]; exact unhide HWY⟩
        · by_cases q2 : x > 255
          · have HR := hide (unhide HBAD (by omega))
            clear HBAD
            go_wp2
            go_ret
            exact ⟨by rw [unhide HR]; rfl, by rw [← unhide HLX, unhide HR, if_neg (by decide)]; exact unhide HWY⟩
          · clear HBAD
            go_wp2
            go_roundw
            case rel => exact ⟨k + 1, by omega, by go_num, fun j hj => (by
              by_cases e : j < k
              · exact unhide HALL j e
              · obtain rfl : j = k := by omega
                rw [unhide HX]
                omega), by first | rfl | trivial⟩
            case measure => simp [intOf]; omega
      · have i1 : ¬ ((k : Int) < (m : Int)) := by omega
        have hf : ∀ k, k < L.length → 0 ≤ L.getD k 0 ∧ L.getD k 0 ≤ 255 := fun j hj => hall j (by rw [unhide HN] at hj; omega)
        have HR := hide (show R = true from by
          rw [unhide HV]
          exact decide_eq_true ⟨by rw [unhide HN]; exact unhide HQ, hf⟩)
        have HNF := hide (unhide HNM hf)
        clear hf hall HNM
        go_wp2_with fail
        refine (unhide HNF).mono ?_
        rintro e z ⟨rfl, hz⟩
        have HZ := hide hz
        clear hz HNF
        go_wp2
        go_ret
        exact ⟨by rw [unhide HR]; rfl, by rw [← unhide HLX, unhide HR, if_pos rfl, unhide HL']; exact unhide HZ⟩
  · have hne : ((m : Int) != 8) = true := by simp; omega
    have HR := hide (show R = false from by
      rw [unhide HV]
      refine decide_eq_false (fun q => hq ?_)
      rw [← unhide HN]
      exact q.1)
    go_enter Tryz.func137, Tryz.ntmps137
    go_wp2
    go_ret
    exact ⟨by rw [unhide HR]; rfl, by rw [← unhide HLX, unhide HR, if_neg (by decide)]; exact unhide HWY⟩
set_option maxHeartbeats 2000000 in
theorem voLay_any {w wr : World} {base b B : Nat} {v : Value} {l : List Int} (h : WPost base b v l 0 w wr) (hbw : b < w.heap.size) (hW : base ≤ b ∧ ∀ k, v.ownBlock = some k → base ≤ k) (p : Prt) (L : List Int) (hm : L.length = p.m) (hL : Lst wr B p.p L) (hB : B ≤ base) (hsz : l.length ≤ 900) (hm9 : p.m ≤ 9223372036854775807) :
    Calls Tryz.prog 141 #[.agg #[], .pointer (some ⟨b, 0, none⟩), .agg p.cs] wr fun e w' => e = .returned (.bool (voB L)) ∧ WPost base b v (if voB L = true then l ++ voL L else l) 0 w w' := by
  obtain ⟨n, t, q, m, c⟩ := p
  have hs := h.size
  show Calls Tryz.prog 141 #[.agg #[], .pointer (some ⟨b, 0, none⟩), .agg #[.int .i64 n, .string t, .slice q m c]] wr fun e w' => e = .returned (.bool (voB L)) ∧ WPost base b v (if voB L = true then l ++ voL L else l) 0 w w'
  simp only at hm hL hm9
  obtain ⟨B1, B2, hbl, hs2⟩ := two_boxes wr #[] #[.int .i64 n, .string t, .slice q m c] 136 103
  obtain ⟨g, hg⟩ : ∃ g, wr.heap.size = g := ⟨_, rfl⟩
  obtain ⟨y, hy⟩ : ∃ Z, (wr.alloc (.cells #[] 136)).alloc (.cells #[.int .i64 n, .string t, .slice q m c] 103) = Z := ⟨_, rfl⟩
  rw [hg] at B1 B2 hs2 hbl
  rw [hy] at B1 B2 hbl hs2
  have hWy := h.below (by rw [hg]; exact hbl)
  have hLy : Lst y B q L := hL.below (hbl.mono (by omega))
  have a3 : y.cell? ⟨g + 1, 2, none⟩ = some (.slice q m c) := by rw [B2.cell]; rfl
  have hgw : w.heap.size ≤ g := by rw [← hg]; exact hs
  have HN := hide hm
  have HLY := hide hLy
  have HWY := hide hWy
  have HB2 := hide B2
  have HV := hide (show voB L = (decide (L.length ≤ 8) && areV L) from rfl)
  obtain ⟨R, hR⟩ : ∃ R, voB L = R := ⟨_, rfl⟩
  rw [hR] at HV ⊢
  obtain ⟨lx, hlx⟩ : ∃ lx, (if R = true then l ++ voL L else l) = lx := ⟨_, rfl⟩
  rw [hlx]
  have HLX := hide hlx
  clear hlx
  clear B1 B2 h hL hLy hWy hR hm
  by_cases hq : m ≤ 8
  · have q1 : ¬ ((m : Int) > 8) := by omega
    have HAV := hide (areVolumes_any y B q c m L (unhide HN) (unhide HLY) (by omega) hq)
    obtain ⟨A, hA⟩ : ∃ A, areV L = A := ⟨_, rfl⟩
    rw [hA] at HAV HV
    have HAA := hide hA
    have HRA := hide (show R = A from by rw [unhide HV, decide_eq_true (by rw [unhide HN]; exact hq)]; rfl)
    clear hA HV
    go_enter Tryz.func141, Tryz.ntmps141
    go_wp2_with fail
    refine (unhide HAV).mono ?_
    rintro e y1 ⟨rfl, hy1⟩
    have hWy1 := (unhide HWY).below hy1
    have hLy1 := (unhide HLY).below (hy1.mono (by omega))
    have hB21 := (unhide HB2).below hy1 (unhide HB2).lt
    have b3 : y1.cell? ⟨g + 1, 2, none⟩ = some (.slice q m c) := by rw [hB21.cell]; rfl
    have HWY1 := hide hWy1
    have HLY1 := hide hLy1
    have HB21 := hide hB21
    clear hy1 hWy1 hLy1 hB21 HWY HLY HB2 HAV a3
    cases A with
    | false =>
      go_wp2
      go_ret
      exact ⟨by rw [unhide HRA]; rfl, by rw [← unhide HLX, unhide HRA, if_neg (by decide)]; exact unhide HWY1⟩
    | true =>
      have hfm : fitsP (m : Int) 1 := fits_byte ⟨by omega, by omega⟩
      obtain ⟨v1, h1, h2, h3⟩ := unhide HWY1
      have hs1 := h2.size
      have hbb := h1.2.2
      have hup : ∀ (l' : List Int) (z : World), WPost base b v1 l' 0 y1 z → Lst z B q L ∧ z.cell? ⟨g + 1, 2, none⟩ = some (.slice q m c) := fun l' z hz => by
        refine ⟨(unhide HLY1).below (hz.up (.inr ⟨hbb, fun k hk => (h1.2.1.lt k hk).1⟩) hB (by omega)), ?_⟩
        rw [(hz.blk (unhide HB21) (fp_blk h1 (unhide HB21) (by decide) (by omega))).cell]
        rfl
      have HUP := hide hup
      have HT := hide (And.intro h2 h3)
      have HW1 := hide (WPost.refl h1)
      have hb1 : base ≤ y1.heap.size := by omega
      have HN1 := hide (wnumK (unhide HW1) hb1 1 (by decide) (by decide) (m : Int) hfm (by omega) 1 rfl _ rfl)
      have HVV := hide (show ∀ k, k < L.length → 0 ≤ L.getD k 0 ∧ L.getD k 0 ≤ 255 from fun k hk => by
        have h9 := of_decide_eq_true (show decide (∀ k, k < L.length → (1 ≤ L.getD k 0 ∧ L.getD k 0 ≤ 99) ∧ (0 < k → L.getD (k - 1) 0 < L.getD k 0)) = true from unhide HAA) k hk
        omega)
      clear hfm hup h1 h2 h3 HWY1 HLY1 HB21
      go_wp2_with fail
      refine (unhide HN1).mono ?_
      rintro e y2 ⟨rfl, hW2⟩
      obtain ⟨hL2, c2⟩ := unhide HUP _ y2 hW2
      have HN2 := hide (numLK hW2 hb1 q c m L (unhide HN) hL2 hB (unhide HVV) (by rw [List.length_append, numB_len]; omega) hq)
      clear hW2 hL2 HN1 b3
      go_wp2_with fail
      refine (unhide HN2).mono ?_
      rintro e y3 ⟨rfl, hW3⟩
      obtain ⟨hL3, c3⟩ := unhide HUP _ y3 hW3
      have w1 : IntKind.i64.wrap (8 - (m : Int)) = ((8 - m : Nat) : Int) := by rw [wrapI_eq _ (by omega) (by omega)]; omega
      have w2 : IntKind.i64.wrap (1 * ((8 - m : Nat) : Int)) = ((8 - m : Nat) : Int) := by rw [wrapI_eq _ (by omega) (by omega)]; omega
      have HNO := hide (noughts_any (8 - m) (by omega) y3)
      have HW3 := hide hW3
      have hout : (outN 1 L).length ≤ 8 := by rw [outN_len, unhide HN]; omega
      obtain ⟨d, hd⟩ : ∃ d, 8 - m = d := ⟨_, rfl⟩
      rw [hd] at w1 w2 HNO
      have hd8 : d ≤ 8 := by omega
      have hz0 : Bytes (List.replicate d (0 : Int)) := fun j => by
        rw [List.getD_eq_getElem?_getD, List.getElem?_replicate]
        split <;> decide
      have hzn : nums (strOfNums (List.replicate d (0 : Int))) = List.replicate d 0 := nums_strOfNums _ hz0
      have hzs : (strOfNums (List.replicate d (0 : Int))).size = d := by rw [← nums_len, hzn, List.length_replicate]
      have HVL := hide (show l ++ voL L = l ++ numB (m : Int) 1 ++ outN 1 L ++ nums (strOfNums (List.replicate d (0 : Int))) from by rw [hzn, voL, unhide HN, hd]; simp)
      obtain ⟨S, hS⟩ : ∃ S, strOfNums (List.replicate d (0 : Int)) = S := ⟨_, rfl⟩
      rw [hS] at HNO HVL hzs
      clear hW3 hL3 HN2 c2 hd hz0 hzn hS
      go_wp2_with fail
      refine (unhide HNO).mono ?_
      rintro e y4 ⟨rfl, hy4⟩
      have hW4 := (unhide HW3).below hy4
      have HR4 := hide (rawK hW4 hb1 S (by simp only [List.length_append, numB_len]; omega))
      rw [wl_good] at HR4
      clear hy4 hW4 HNO HW3
      go_wp2_with fail
      refine (unhide HR4).mono ?_
      rintro e y5 ⟨rfl, hW5⟩
      have HW5 := hide hW5
      clear hW5 HR4
      go_wp2
      go_ret
      exact ⟨by rw [unhide HRA]; rfl, by rw [← unhide HLX, unhide HRA, if_pos rfl, unhide HVL]; exact WPost.trans (unhide HT).1 (unhide HT).2 (unhide HW5)⟩
  · have q1 : ((m : Int) > 8) := by omega
    have HR := hide (show R = false from by
      rw [unhide HV, decide_eq_false (by rw [unhide HN]; exact hq)]
      rfl)
    go_enter Tryz.func141, Tryz.ntmps141
    go_wp2
    go_ret
    exact ⟨by rw [unhide HR]; rfl, by rw [← unhide HLX, unhide HR, if_neg (by decide)]; exact unhide HWY⟩
end Go.Proofs.YtpjoibolhkgkhaaGreatDoor
namespace Go.Proofs.YtpjoibolhkgkhaaGreatDoor
open Go.RowKit
set_option maxRecDepth 100000
/-- may a field be this part, whose list says so? and its bytes -/
def okG (f : Fld) (p : Prt) (V Pl : List Int) : Bool := if f.k = 2 then plB Pl else if f.k = 3 then voB V else okF f p
def byG (f : Fld) (p : Prt) (V Pl : List Int) : List Int := if f.k = 2 then outN 1 Pl else if f.k = 3 then voL V else byF f p
/-- fields laid down: what is left of the reply, and the bytes -/
def layG (V Pl : List Int) : List Fld → Rep → Option (Rep × List Int)
  | [], r => some (r, [])
  | f :: fs, r => if okG f (exr f r Prt.nil).2 V Pl then (layG V Pl fs (exr f r Prt.nil).1).map (fun x => (x.1, byG f (exr f r Prt.nil).2 V Pl ++ x.2)) else none
def lgB (kd : Int) (r : Rep) (V Pl : List Int) : Bool := match layG V Pl (rpF kd) r with | none => false | some x => bareP x.1
def lgL (kd : Int) (r : Rep) (V Pl : List Int) : List Int := match layG V Pl (rpF kd) r with | none => [] | some x => x.2
theorem voL_len {V : List Int} (h : voB V = true) : (voL V).length = 9 := by
  have h8 : V.length ≤ 8 := by
    rw [voB, Bool.and_eq_true] at h
    exact of_decide_eq_true h.1
  simp only [voL, List.length_append, numB_len, outN_len, List.length_replicate]
  omega
theorem byG_len {f : Fld} (h : IsP f) {p : Prt} {V Pl : List Int} (hk : okG f p V Pl = true) : (byG f p V Pl).length = f.b := by
  rcases h with rfl | rfl | rfl | rfl | rfl | rfl | rfl
  · exact numB_len _ _
  · exact numB_len _ _
  · exact voL_len hk
  · exact numB_len _ _
  · have h8 := (of_decide_eq_true (show decide (Pl.length = 8 ∧ ∀ k, k < Pl.length → 0 ≤ Pl.getD k 0 ∧ Pl.getD k 0 ≤ 255) = true from hk)).1
    show (outN 1 Pl).length = 8
    rw [outN_len]
    omega
  all_goals (
    have hk' := of_decide_eq_true (show decide (p.t.size = _) = true from hk)
    exact (nums_len _).trans hk')
theorem rpF_nodup (k : Int) : (rpF k).Nodup := by
  unfold rpF
  (repeat' split) <;> simp [fQuo, fCha, fVos, fNon, fPla, fWra, fDat]
/-- lists that have not been taken out yet are those of the reply -/
def KeptL (r rk : Rep) (gs : List Fld) : Prop := (fVos ∈ gs → rk.vp = r.vp ∧ rk.vm = r.vm) ∧ (fPla ∈ gs → rk.pp = r.pp ∧ rk.pm = r.pm)
theorem KeptL.step {r rk : Rep} {f : Fld} {gs : List Fld} (h : KeptL r rk (f :: gs)) (hf : IsP f) (hn : f ∉ gs) : KeptL r (exr f rk Prt.nil).1 gs := by
  refine ⟨fun hv => ?_, fun hv => ?_⟩
  · obtain ⟨h1, h2⟩ := h.1 (List.mem_cons_of_mem _ hv)
    rcases hf with rfl | rfl | rfl | rfl | rfl | rfl | rfl
    case inr.inr.inl => exact absurd hv hn
    all_goals exact ⟨h1, h2⟩
  · obtain ⟨h1, h2⟩ := h.2 (List.mem_cons_of_mem _ hv)
    rcases hf with rfl | rfl | rfl | rfl | rfl | rfl | rfl
    case inr.inr.inr.inr.inl => exact absurd hv hn
    all_goals exact ⟨h1, h2⟩
set_option maxHeartbeats 8000000 in
theorem layReplyG_any (kd : Int) (r : Rep) (V Pl : List Int) (hfull : fullP kd r.st = true) (hvm : V.length = r.vm) (hpm : Pl.length = r.pm) (hm9 : r.vm ≤ 9223372036854775807 ∧ r.pm ≤ 9223372036854775807) (B : Nat) (w : World) (hLV : Lst w B r.vp V) (hLP : Lst w B r.pp Pl) (base b : Nat) (v : Value) (l : List Int) (hW : Wtr w base b v l 0) (hb : base ≤ w.heap.size) (hB : B ≤ base) (hl : l.length ≤ 100) :
    Calls Tryz.prog 36 #[.pointer (some ⟨b, 0, none⟩), .int .i64 kd, .agg r.cs] w fun e w' => ∃ l', e = .returned (.bool (lgB kd r V Pl)) ∧ WPost base b v l' 0 w w' ∧ (lgB kd r V Pl = true → l' = l ++ lgL kd r V Pl) := by
  obtain ⟨g, hg⟩ : ∃ g, w.heap.size = g := ⟨_, rfl⟩
  obtain ⟨st, hst⟩ : ∃ q, r.st = q := ⟨_, rfl⟩
  have HFU := hide (isFull_any kd st)
  rw [← hst, hfull] at HFU
  obtain ⟨y, hy⟩ : ∃ Z, w.alloc (.cells r.cs 34) = Z := ⟨_, rfl⟩
  have BY : Blk y g r.cs 34 := by rw [← hy, ← hg]; exact Blk.new w _ _
  have hby : Below g w y := by rw [← hy, ← hg]; exact (Below.refl _ w).alloc (Nat.le_refl _) _
  have hsy : y.heap.size = g + 1 := by rw [← hy, ← hg]; simp
  have hbg : b < g := by rw [← hg]; exact hW.lt
  have c0 : y.cell? ⟨g, 0, none⟩ = some (.int .i64 st) := by rw [BY.cell, ← hst]; rfl
  have hWy : WPost base b v l 0 w y := (WPost.refl hW).below (by rw [hg]; exact hby)
  have HF := hide (rpf_any kd)
  have HA := hide (rpF_all kd)
  have HND := hide (rpF_nodup kd)
  have HLS := hide (And.intro hLV (And.intro hLP (And.intro hvm (And.intro hpm hm9))))
  have HLEN := hide (rpF_len kd)
  have HLB := hide (show lgB kd r V Pl = match layG V Pl (rpF kd) r with | none => false | some x => bareP x.1 from rfl)
  have HLL := hide (show lgL kd r V Pl = match layG V Pl (rpF kd) r with | none => [] | some x => x.2 from rfl)
  have HY := hide (And.intro BY (And.intro hWy hsy))
  have HW := hide hW
  obtain ⟨rc, hrc⟩ : ∃ Z, r.cs = Z := ⟨_, rfl⟩
  have HRC := hide hrc
  rw [hrc] at hy ⊢
  generalize lgB kd r V Pl = RB at *
  generalize lgL kd r V Pl = RL at *
  generalize rpF kd = fs at *
  clear BY hby hsy hWy hW hrc hfull hLV hLP hvm hpm hm9
  go_enter Tryz.func36, Tryz.ntmps36
  go_wp2_with fail
  clear hy
  refine (unhide HF y).mono ?_
  rintro e x ⟨fvv, rfl, hR, hx⟩
  obtain ⟨p, rfl, hp⟩ := hR.form
  obtain ⟨BY, hWy, hsy⟩ := unhide HY
  have BX := BY.below hx (by omega)
  have hWx := hWy.below hx
  have hgx : g < x.heap.size := BX.lt
  have HX := hide (And.intro BX (And.intro hWx hR))
  have HP := hide hp
  obtain ⟨n, hn⟩ : ∃ n, fs.length = n := ⟨_, rfl⟩
  have HN := hide hn
  have HPB := hide (show ∀ q, p = some q → q.block < x.heap.size by
    intro q hq
    have := hR.lt q.block (by rw [hq]; rfl)
    exact this)
  rw [hn]
  have d0 : x.cell? ⟨g, 0, none⟩ = some (.int .i64 st) := by rw [BX.cell, ← BY.cell]; exact c0
  clear hp hR BY hWy hsy BX hWx hx hn c0 HY
  rw [hst] at HFU
  go_wp2_with fail
  refine (unhide HFU _).mono ?_
  rintro e x' ⟨rfl, hx'⟩
  subst x'
  go_wp2_with fail
  clear d0
  go_loopw [27] (fun i wr => ∃ (k : Nat) (rk : Rep) (lk : List Int), k ≤ n ∧ i = .int .i64 (k : Int) ∧ layG V Pl fs r = (layG V Pl (fs.drop k) rk).map (fun z => (z.1, lk ++ z.2)) ∧ Blk wr g rk.cs 34 ∧ FR wr (.slice p n n) fs ∧ WPost base b v (l ++ lk) 0 w wr ∧ lk.length ≤ 256 * k ∧ KeptL r rk (fs.drop k)) (fun i _ => n - (intOf i).toNat)
  case atStart =>
    obtain ⟨BX, hWx, hR⟩ := unhide HX
    refine ⟨0, r, [], Nat.zero_le _, rfl, ?_, BX, by rw [← unhide HN]; rwa [unhide HN] at hR ⊢, by rw [List.append_nil]; exact hWx, by simp, ⟨fun _ => ⟨rfl, rfl⟩, fun _ => ⟨rfl, rfl⟩⟩⟩
    rw [List.drop_zero]
    cases layG V Pl fs r with
    | none => rfl
    | some z => simp
  case round =>
    obtain ⟨k, rk, lk, hk, rfl, hlq, BK, hRk, hWk, hlk, hkl⟩ := hrel
    by_cases hkn : k < n
    · have hkn' : (k : Int) < (n : Int) := by omega
      have hk0 : (0 : Int) ≤ (k : Int) := by omega
      have hlen := unhide HN
      have hn4 := unhide HLEN
      have hRk' := hRk
      obtain ⟨q, hq, hqb⟩ := FR.form (show FR wr (.slice p fs.length fs.length) fs by rw [hlen]; exact hRk)
      obtain ⟨fb, hqe, Bf⟩ := hqb (by omega)
      obtain rfl : p = q := by simpa using hq
      subst hqe
      have hf : IsP (fs[k]'(by omega)) := unhide HA _ (List.getElem_mem _)
      have hc : wr.cell? ⟨fb, k, none⟩ = some (fv (fs[k]'(by omega))) := fr_cell Bf k (by omega)
      have hdrop : fs.drop k = fs[k]'(by omega) :: fs.drop (k + 1) := (List.getElem_cons_drop (by omega)).symm
      rw [hdrop] at hlq hkl
      have hnin : fs[k]'(by omega) ∉ fs.drop (k + 1) := by
        have h9 := unhide HND
        rw [← List.take_append_drop k fs, hdrop] at h9
        have h8 := (List.nodup_append.1 h9).2.1
        exact (List.nodup_cons.1 h8).1
      have HKL := hide hkl
      have HNI := hide hnin
      clear hkl hnin
      have HLQ := hide hlq
      clear hdrop hq
      generalize fs[k]'(by omega) = f at *
      obtain ⟨h, hh⟩ : ∃ h, wr.heap.size = h := ⟨_, rfl⟩
      obtain ⟨y1, hy1⟩ : ∃ Z, wr.alloc (.cells #[.int .i64 0, .string ⟨#[]⟩, .slice none 0 0] 103) = Z := ⟨_, rfl⟩
      have hb1 : Below h wr y1 := by rw [← hy1, ← hh]; exact (Below.refl _ wr).alloc (Nat.le_refl _) _
      have BZ1 : Blk y1 h #[.int .i64 0, .string ⟨#[]⟩, .slice none 0 0] 103 := by rw [← hy1, ← hh]; exact Blk.new wr _ _
      have hgh : g < h := by rw [← hh]; exact BK.lt
      have hfh : fb < h := by rw [← hh]; exact Bf.lt
      have BK1 := BK.below hb1 hgh
      have Bf1 := Bf.below hb1 hfh
      have hW1 := hWk.below (by rw [hh]; exact hb1)
      have HRG := hide (show y1.rangeAt g 0 rk.cl from blk_range BK1)
      have HY1 := hide (And.intro BK1 (And.intro Bf1 (And.intro BZ1 hW1)))
      have HK1 := hide hlk
      have HHF := hide hf
      have hs1 : y1.heap.size = h + 1 := by rw [← hy1, ← hh]; simp
      have HS1 := hide hs1
      clear hb1 BZ1 BK1 Bf1 hW1 BK Bf hRk hRk' hWk hlq hlk hqb hs1 hf
      go_wp2_with (refine wpList_load_mid rfl 34 (.tmp 5) rfl g 0 rfl rk.cl _ (unhide HRG) Tryz.underlying34 rfl size_rep ?_)
      clear hy1
      refine (exr_any f (unhide HHF) rk Prt.nil _).mono ?_
      rintro e x2 ⟨rfl, hx2⟩
      obtain ⟨BK1, Bf1, BZ1, hW1⟩ := unhide HY1
      have hlq := unhide HLQ
      have hs1 := unhide HS1
      obtain ⟨r2, hr2⟩ : ∃ Z, (exr f rk Prt.nil).1 = Z := ⟨_, rfl⟩
      obtain ⟨p2, hp2⟩ : ∃ Z, (exr f rk Prt.nil).2 = Z := ⟨_, rfl⟩
      rw [hr2, hp2]
      have hlay : layG V Pl (f :: fs.drop (k + 1)) rk = if okG f p2 V Pl then (layG V Pl (fs.drop (k + 1)) r2).map (fun z => (z.1, byG f p2 V Pl ++ z.2)) else none := by
        rw [layG, hr2, hp2]
      rw [hlay] at hlq
      have HP2 := hide hp2
      have HKL2 := hide (show KeptL r r2 (fs.drop (k + 1)) from by rw [← hr2]; exact (unhide HKL).step (unhide HHF) (unhide HNI))
      clear hlay hr2 hp2
      have BK2 := BK1.below hx2 BK1.lt
      have Bf2 := Bf1.below hx2 Bf1.lt
      have BZ2 := BZ1.below hx2 BZ1.lt
      have hW2 := hW1.below hx2
      have hfg : fb ≠ g := by
        intro e
        subst e
        have e1 := (show x2.heap[fb]? = _ from Bf2).symm.trans (show x2.heap[fb]? = _ from BK2)
        injection e1 with e1
        injection e1 with _ e2 _
        exact absurd e2 (by decide)
      have hT1 : (34 : Nat) ≠ 5 := by decide
      have hT2 : (103 : Nat) ≠ 5 := by decide
      have hT3 : (101 : Nat) ≠ 5 := by decide
      have BK3 : Blk (x2.setRow g r2.cs) g r2.cs 34 := blk_setRow BK2
      have Bf3 : Blk (x2.setRow g r2.cs) fb _ _ := blk_setRow_other Bf2 (Ne.symm hfg)
      have BZ3 : Blk (x2.setRow g r2.cs) h _ _ := blk_setRow_other BZ2 (by omega)
      have hW3 : WPost base b v (l ++ lk) 0 w (x2.setRow g r2.cs) := hW2.turn BK2 hT1 (by omega) (by omega)
      have BK4 : Blk ((x2.setRow g r2.cs).setRow h p2.cs) g r2.cs 34 := blk_setRow_other BK3 (by omega)
      have Bf4 : Blk ((x2.setRow g r2.cs).setRow h p2.cs) fb _ _ := blk_setRow_other Bf3 (by omega)
      have BP4 : Blk ((x2.setRow g r2.cs).setRow h p2.cs) h p2.cs 103 := blk_setRow BZ3
      have hW4 : WPost base b v (l ++ lk) 0 w ((x2.setRow g r2.cs).setRow h p2.cs) := hW3.turn BZ3 hT2 (by omega) (by omega)
      obtain ⟨x3, hx3⟩ : ∃ Z, x2.setRow g r2.cs = Z := ⟨_, rfl⟩
      have HZ2 := hide BK2
      have HZ3 := hide BZ3
      rw [hx3] at BK4 Bf4 BP4 hW4
      obtain ⟨x4, hx4⟩ : ∃ Z, x3.setRow h p2.cs = Z := ⟨_, rfl⟩
      rw [hx4] at BK4 Bf4 BP4 hW4
      have HRP := hide (show x4.rangeAt h 0 p2.cl from blk_range BP4)
      obtain ⟨v1, h1, h2, h3⟩ := hW4
      have hbx : base ≤ x4.heap.size := Nat.le_trans hb h2.size
      have hlk := unhide HK1
      have hlen2 : (l ++ lk).length ≤ 1000 := by rw [List.length_append]; omega
      have hlen3 : (l ++ lk).length ≤ 900 := by rw [List.length_append]; omega
      have hwb : base ≤ b ∧ ∀ q, v1.ownBlock = some q → base ≤ q := ⟨h1.2.2, fun q hq => (h1.2.1.lt q hq).1⟩
      have hupB : Below B w x4 := WPost.up ⟨v1, h1, h2, h3⟩ (.inr ⟨(unhide HW).2.2, fun q hq => ((unhide HW).2.1.lt q hq).1⟩) hB (by omega)
      have HLV := hide (show fVos = f → Lst x4 B p2.p V ∧ V.length = p2.m ∧ p2.m ≤ 9223372036854775807 from fun e => by
        subst e
        obtain ⟨k1, k2⟩ := (unhide HKL).1 (List.mem_cons_self ..)
        rw [← unhide HP2]
        show Lst x4 B rk.vp V ∧ V.length = rk.vm ∧ rk.vm ≤ _
        rw [k1, k2]
        exact ⟨(unhide HLS).1.below hupB, (unhide HLS).2.2.1, (unhide HLS).2.2.2.2.1⟩)
      have HLP := hide (show fPla = f → Lst x4 B p2.p Pl ∧ Pl.length = p2.m ∧ p2.m ≤ 9223372036854775807 from fun e => by
        subst e
        obtain ⟨k1, k2⟩ := (unhide HKL).2 (List.mem_cons_self ..)
        rw [← unhide HP2]
        show Lst x4 B rk.pp Pl ∧ Pl.length = rk.pm ∧ rk.pm ≤ _
        rw [k1, k2]
        exact ⟨(unhide HLS).2.1.below hupB, (unhide HLS).2.2.2.1, (unhide HLS).2.2.2.2.2⟩)
      have hbx4 : b < x4.heap.size := h1.lt
      clear hupB
      have hkey : ∀ (l' : List Int) (z : World), WPost base b v1 l' 0 x4 z → Blk z g r2.cs 34 ∧ FR z (.slice (some ⟨fb, 0, none⟩) n n) fs ∧ WPost base b v l' 0 w z := by
        intro l' z hz
        refine ⟨hz.blk BK4 (fp_blk h1 BK4 hT1 (by omega)), .inr ⟨fb, by rw [hlen], hz.blk Bf4 (fp_blk h1 Bf4 hT3 ?_)⟩, WPost.trans h2 h3 hz⟩
        intro e
        have e1 := (show x4.heap[fb]? = _ from Bf4).symm.trans (show x4.heap[fb]? = _ from e ▸ h1.1)
        injection e1 with e1
        injection e1 with _ e2 _
        exact absurd e2 (by decide)
      have hwk : IntKind.i64.wrap ((k : Int) + 1) = ((k + 1 : Nat) : Int) := by rw [wrapI_eq _ (by omega) (by omega)]; omega
      have HKEY := hide hkey
      clear hkey BK1 Bf1 BZ1 hW1 BK2 Bf2 BZ2 hW2 BK3 Bf3 BZ3 hW3 BK4 Bf4 BP4 h2 h3 hx2 hfg HY1 hlk HLQ
      have HO1 := hide (Rep.one r2)
      have HO2 := hide (Prt.one p2)
      have hfv : fv f = .iface f.ty (.agg f.cs) := rfl
      rw [hfv]
      clear hfv
      go_wp2_with (first | refine wpList_store_row rfl 34 (.tmp 5) (.tmp 36) rfl g r2.cs rfl rfl 34 rk.cs (unhide HZ2) size_rep rfl (unhide HO1) ?_ | refine wpList_store_row rfl 103 (.tmp 10) (.tmp 37) rfl h p2.cs rfl rfl 103 #[.int .i64 0, .string ⟨#[]⟩, .slice none 0 0] (unhide HZ3) size_prt rfl (unhide HO2) ?_ | refine wpList_load_mid rfl 103 (.tmp 10) rfl h 0 rfl p2.cl _ (unhide HRP) Tryz.underlying103 rfl size_prt ?_)
      have hf := unhide HHF
      have HBF := hide (fun (q : okG f p2 V Pl = true) => byG_len hf q)
      have HB256 := hide (isF_b hf.isF).2
      by_cases hok : okG f p2 V Pl = true
      · have HLQ2 := hide (show layG V Pl fs r = (layG V Pl (fs.drop (k + 1)) r2).map (fun z => (z.1, (lk ++ byG f p2 V Pl) ++ z.2)) by
          rw [hlq, if_pos hok, Option.map_map]
          congr 1
          funext z
          simp)
        have HLK2 := hide (show (lk ++ byG f p2 V Pl).length ≤ 256 * (k + 1) by
          rw [List.length_append, unhide HBF hok]
          have := unhide HB256
          have := unhide HK1
          omega)
        clear hlq HHF HBF HB256
        rcases hf with rfl | rfl | rfl | rfl | rfl | rfl | rfl
        · have HC := hide (show Calls Tryz.prog 130 #[.agg #[.int .i64 2, .int .i64 0, .int .i64 65535], .pointer (some ⟨b, 0, none⟩), .agg p2.cl.toArray] x4 fun e w' => e = .returned (.bool (okG fQuo p2 V Pl)) ∧ WPost base b v1 (if okG fQuo p2 V Pl = true then l ++ lk ++ byG fQuo p2 V Pl else l ++ lk) 0 x4 w' from nlay_any (WPost.refl h1) hbx 2 0 65535 (by decide) (by decide) (by decide) p2 hlen2)
          rw [hok] at HC
          clear h1 hbx hlen2 hlen3 hwb HLV HLP hbx4
          go_wp2_with (first | (go_at_call 130; refine (unhide HC).mono ?_; rintro e z ⟨rfl, hz⟩; have HZ := hide hz; clear hz))
          obtain ⟨q1, q2, q3⟩ := unhide HKEY (l ++ lk ++ byG fQuo p2 V Pl) z (unhide HZ)
          exact ⟨⟨k + 1, r2, lk ++ byG fQuo p2 V Pl, by omega, rfl, unhide HLQ2, q1, q2, by rw [← List.append_assoc]; exact q3, unhide HLK2, unhide HKL2⟩, by simp [intOf]; omega⟩
        · have HC := hide (show Calls Tryz.prog 130 #[.agg #[.int .i64 2, .int .i64 0, .int .i64 65535], .pointer (some ⟨b, 0, none⟩), .agg p2.cl.toArray] x4 fun e w' => e = .returned (.bool (okG fCha p2 V Pl)) ∧ WPost base b v1 (if okG fCha p2 V Pl = true then l ++ lk ++ byG fCha p2 V Pl else l ++ lk) 0 x4 w' from nlay_any (WPost.refl h1) hbx 2 0 65535 (by decide) (by decide) (by decide) p2 hlen2)
          rw [hok] at HC
          clear h1 hbx hlen2 hlen3 hwb HLV HLP hbx4
          go_wp2_with (first | (go_at_call 130; refine (unhide HC).mono ?_; rintro e z ⟨rfl, hz⟩; have HZ := hide hz; clear hz))
          obtain ⟨q1, q2, q3⟩ := unhide HKEY (l ++ lk ++ byG fCha p2 V Pl) z (unhide HZ)
          exact ⟨⟨k + 1, r2, lk ++ byG fCha p2 V Pl, by omega, rfl, unhide HLQ2, q1, q2, by rw [← List.append_assoc]; exact q3, unhide HLK2, unhide HKL2⟩, by simp [intOf]; omega⟩
        · have HC := hide (show Calls Tryz.prog 141 #[.agg #[], .pointer (some ⟨b, 0, none⟩), .agg p2.cl.toArray] x4 fun e w' => e = .returned (.bool (okG fVos p2 V Pl)) ∧ WPost base b v1 (if okG fVos p2 V Pl = true then l ++ lk ++ byG fVos p2 V Pl else l ++ lk) 0 x4 w' from voLay_any (WPost.refl h1) hbx4 hwb p2 V (unhide HLV rfl).2.1 (unhide HLV rfl).1 hB hlen3 (unhide HLV rfl).2.2)
          rw [hok] at HC
          clear h1 hbx hlen2 hlen3 hwb HLV HLP hbx4
          go_wp2_with (first | (go_at_call 141; refine (unhide HC).mono ?_; rintro e z ⟨rfl, hz⟩; have HZ := hide hz; clear hz))
          obtain ⟨q1, q2, q3⟩ := unhide HKEY (l ++ lk ++ byG fVos p2 V Pl) z (unhide HZ)
          exact ⟨⟨k + 1, r2, lk ++ byG fVos p2 V Pl, by omega, rfl, unhide HLQ2, q1, q2, by rw [← List.append_assoc]; exact q3, unhide HLK2, unhide HKL2⟩, by simp [intOf]; omega⟩
        · have HC := hide (show Calls Tryz.prog 130 #[.agg #[.int .i64 4, .int .i64 0, .int .i64 4294967295], .pointer (some ⟨b, 0, none⟩), .agg p2.cl.toArray] x4 fun e w' => e = .returned (.bool (okG fNon p2 V Pl)) ∧ WPost base b v1 (if okG fNon p2 V Pl = true then l ++ lk ++ byG fNon p2 V Pl else l ++ lk) 0 x4 w' from nlay_any (WPost.refl h1) hbx 4 0 4294967295 (by decide) (by decide) (by decide) p2 hlen2)
          rw [hok] at HC
          clear h1 hbx hlen2 hlen3 hwb HLV HLP hbx4
          go_wp2_with (first | (go_at_call 130; refine (unhide HC).mono ?_; rintro e z ⟨rfl, hz⟩; have HZ := hide hz; clear hz))
          obtain ⟨q1, q2, q3⟩ := unhide HKEY (l ++ lk ++ byG fNon p2 V Pl) z (unhide HZ)
          exact ⟨⟨k + 1, r2, lk ++ byG fNon p2 V Pl, by omega, rfl, unhide HLQ2, q1, q2, by rw [← List.append_assoc]; exact q3, unhide HLK2, unhide HKL2⟩, by simp [intOf]; omega⟩
        · have HC := hide (show Calls Tryz.prog 137 #[.agg #[], .pointer (some ⟨b, 0, none⟩), .agg p2.cl.toArray] x4 fun e w' => e = .returned (.bool (okG fPla p2 V Pl)) ∧ WPost base b v1 (if okG fPla p2 V Pl = true then l ++ lk ++ byG fPla p2 V Pl else l ++ lk) 0 x4 w' from plLay_any (WPost.refl h1) hbx p2 Pl (unhide HLP rfl).2.1 (unhide HLP rfl).1 hB hlen2 (unhide HLP rfl).2.2)
          rw [hok] at HC
          clear h1 hbx hlen2 hlen3 hwb HLV HLP hbx4
          go_wp2_with (first | (go_at_call 137; refine (unhide HC).mono ?_; rintro e z ⟨rfl, hz⟩; have HZ := hide hz; clear hz))
          obtain ⟨q1, q2, q3⟩ := unhide HKEY (l ++ lk ++ byG fPla p2 V Pl) z (unhide HZ)
          exact ⟨⟨k + 1, r2, lk ++ byG fPla p2 V Pl, by omega, rfl, unhide HLQ2, q1, q2, by rw [← List.append_assoc]; exact q3, unhide HLK2, unhide HKL2⟩, by simp [intOf]; omega⟩
        · have HC := hide (show Calls Tryz.prog 134 #[.agg #[.int .i64 48], .pointer (some ⟨b, 0, none⟩), .agg p2.cl.toArray] x4 fun e w' => e = .returned (.bool (okG fWra p2 V Pl)) ∧ WPost base b v1 (if okG fWra p2 V Pl = true then l ++ lk ++ byG fWra p2 V Pl else l ++ lk) 0 x4 w' from tlay_any (WPost.refl h1) hbx 48 (by decide) p2 hlen2)
          rw [hok] at HC
          clear h1 hbx hlen2 hlen3 hwb HLV HLP hbx4
          go_wp2_with (first | (go_at_call 134; refine (unhide HC).mono ?_; rintro e z ⟨rfl, hz⟩; have HZ := hide hz; clear hz))
          obtain ⟨q1, q2, q3⟩ := unhide HKEY (l ++ lk ++ byG fWra p2 V Pl) z (unhide HZ)
          exact ⟨⟨k + 1, r2, lk ++ byG fWra p2 V Pl, by omega, rfl, unhide HLQ2, q1, q2, by rw [← List.append_assoc]; exact q3, unhide HLK2, unhide HKL2⟩, by simp [intOf]; omega⟩
        · have HC := hide (show Calls Tryz.prog 134 #[.agg #[.int .i64 256], .pointer (some ⟨b, 0, none⟩), .agg p2.cl.toArray] x4 fun e w' => e = .returned (.bool (okG fDat p2 V Pl)) ∧ WPost base b v1 (if okG fDat p2 V Pl = true then l ++ lk ++ byG fDat p2 V Pl else l ++ lk) 0 x4 w' from tlay_any (WPost.refl h1) hbx 256 (by decide) p2 hlen2)
          rw [hok] at HC
          clear h1 hbx hlen2 hlen3 hwb HLV HLP hbx4
          go_wp2_with (first | (go_at_call 134; refine (unhide HC).mono ?_; rintro e z ⟨rfl, hz⟩; have HZ := hide hz; clear hz))
          obtain ⟨q1, q2, q3⟩ := unhide HKEY (l ++ lk ++ byG fDat p2 V Pl) z (unhide HZ)
          exact ⟨⟨k + 1, r2, lk ++ byG fDat p2 V Pl, by omega, rfl, unhide HLQ2, q1, q2, by rw [← List.append_assoc]; exact q3, unhide HLK2, unhide HKL2⟩, by simp [intOf]; omega⟩
      · have hok : okG f p2 V Pl = false := by simpa using hok
        have HRB := hide (show RB = false by
          have hb := unhide HLB
          rw [hlq, if_neg (by rw [hok]; decide)] at hb
          exact hb)
        clear hlq HHF HBF HB256
        rcases hf with rfl | rfl | rfl | rfl | rfl | rfl | rfl
        · have HC := hide (show Calls Tryz.prog 130 #[.agg #[.int .i64 2, .int .i64 0, .int .i64 65535], .pointer (some ⟨b, 0, none⟩), .agg p2.cl.toArray] x4 fun e w' => e = .returned (.bool (okG fQuo p2 V Pl)) ∧ WPost base b v1 (if okG fQuo p2 V Pl = true then l ++ lk ++ byG fQuo p2 V Pl else l ++ lk) 0 x4 w' from nlay_any (WPost.refl h1) hbx 2 0 65535 (by decide) (by decide) (by decide) p2 hlen2)
          rw [hok] at HC
          clear h1 hbx hlen2 hlen3 hwb HLV HLP hbx4
          go_wp2_with (first | (go_at_call 130; refine (unhide HC).mono ?_; rintro e z ⟨rfl, hz⟩; have HZ := hide hz; clear hz))
          go_ret
          exact ⟨l ++ lk, by rw [unhide HRB]; rfl, (unhide HKEY (l ++ lk) z (unhide HZ)).2.2, fun q => absurd ((unhide HRB).symm.trans q) (by decide)⟩
        · have HC := hide (show Calls Tryz.prog 130 #[.agg #[.int .i64 2, .int .i64 0, .int .i64 65535], .pointer (some ⟨b, 0, none⟩), .agg p2.cl.toArray] x4 fun e w' => e = .returned (.bool (okG fCha p2 V Pl)) ∧ WPost base b v1 (if okG fCha p2 V Pl = true then l ++ lk ++ byG fCha p2 V Pl else l ++ lk) 0 x4 w' from nlay_any (WPost.refl h1) hbx 2 0 65535 (by decide) (by decide) (by decide) p2 hlen2)
          rw [hok] at HC
          clear h1 hbx hlen2 hlen3 hwb HLV HLP hbx4
          go_wp2_with (first | (go_at_call 130; refine (unhide HC).mono ?_; rintro e z ⟨rfl, hz⟩; have HZ := hide hz; clear hz))
          go_ret
          exact ⟨l ++ lk, by rw [unhide HRB]; rfl, (unhide HKEY (l ++ lk) z (unhide HZ)).2.2, fun q => absurd ((unhide HRB).symm.trans q) (by decide)⟩
        · have HC := hide (show Calls Tryz.prog 141 #[.agg #[], .pointer (some ⟨b, 0, none⟩), .agg p2.cl.toArray] x4 fun e w' => e = .returned (.bool (okG fVos p2 V Pl)) ∧ WPost base b v1 (if okG fVos p2 V Pl = true then l ++ lk ++ byG fVos p2 V Pl else l ++ lk) 0 x4 w' from voLay_any (WPost.refl h1) hbx4 hwb p2 V (unhide HLV rfl).2.1 (unhide HLV rfl).1 hB hlen3 (unhide HLV rfl).2.2)
          rw [hok] at HC
          clear h1 hbx hlen2 hlen3 hwb HLV HLP hbx4
          go_wp2_with (first | (go_at_call 141; refine (unhide HC).mono ?_; rintro e z ⟨rfl, hz⟩; have HZ := hide hz; clear hz))
          go_ret
          exact ⟨l ++ lk, by rw [unhide HRB]; rfl, (unhide HKEY (l ++ lk) z (unhide HZ)).2.2, fun q => absurd ((unhide HRB).symm.trans q) (by decide)⟩
        · have HC := hide (show Calls Tryz.prog 130 #[.agg #[.int .i64 4, .int .i64 0, .int .i64 4294967295], .pointer (some ⟨b, 0, none⟩), .agg p2.cl.toArray] x4 fun e w' => e = .returned (.bool (okG fNon p2 V Pl)) ∧ WPost base b v1 (if okG fNon p2 V Pl = true then l ++ lk ++ byG fNon p2 V Pl else l ++ lk) 0 x4 w' from nlay_any (WPost.refl h1) hbx 4 0 4294967295 (by decide) (by decide) (by decide) p2 hlen2)
          rw [hok] at HC
          clear h1 hbx hlen2 hlen3 hwb HLV HLP hbx4
          go_wp2_with (first | (go_at_call 130; refine (unhide HC).mono ?_; rintro e z ⟨rfl, hz⟩; have HZ := hide hz; clear hz))
          go_ret
          exact ⟨l ++ lk, by rw [unhide HRB]; rfl, (unhide HKEY (l ++ lk) z (unhide HZ)).2.2, fun q => absurd ((unhide HRB).symm.trans q) (by decide)⟩
        · have HC := hide (show Calls Tryz.prog 137 #[.agg #[], .pointer (some ⟨b, 0, none⟩), .agg p2.cl.toArray] x4 fun e w' => e = .returned (.bool (okG fPla p2 V Pl)) ∧ WPost base b v1 (if okG fPla p2 V Pl = true then l ++ lk ++ byG fPla p2 V Pl else l ++ lk) 0 x4 w' from plLay_any (WPost.refl h1) hbx p2 Pl (unhide HLP rfl).2.1 (unhide HLP rfl).1 hB hlen2 (unhide HLP rfl).2.2)
          rw [hok] at HC
          clear h1 hbx hlen2 hlen3 hwb HLV HLP hbx4
          go_wp2_with (first | (go_at_call 137; refine (unhide HC).mono ?_; rintro e z ⟨rfl, hz⟩; have HZ := hide hz; clear hz))
          go_ret
          exact ⟨l ++ lk, by rw [unhide HRB]; rfl, (unhide HKEY (l ++ lk) z (unhide HZ)).2.2, fun q => absurd ((unhide HRB).symm.trans q) (by decide)⟩
        · have HC := hide (show Calls Tryz.prog 134 #[.agg #[.int .i64 48], .pointer (some ⟨b, 0, none⟩), .agg p2.cl.toArray] x4 fun e w' => e = .returned (.bool (okG fWra p2 V Pl)) ∧ WPost base b v1 (if okG fWra p2 V Pl = true then l ++ lk ++ byG fWra p2 V Pl else l ++ lk) 0 x4 w' from tlay_any (WPost.refl h1) hbx 48 (by decide) p2 hlen2)
          rw [hok] at HC
          clear h1 hbx hlen2 hlen3 hwb HLV HLP hbx4
          go_wp2_with (first | (go_at_call 134; refine (unhide HC).mono ?_; rintro e z ⟨rfl, hz⟩; have HZ := hide hz; clear hz))
          go_ret
          exact ⟨l ++ lk, by rw [unhide HRB]; rfl, (unhide HKEY (l ++ lk) z (unhide HZ)).2.2, fun q => absurd ((unhide HRB).symm.trans q) (by decide)⟩
        · have HC := hide (show Calls Tryz.prog 134 #[.agg #[.int .i64 256], .pointer (some ⟨b, 0, none⟩), .agg p2.cl.toArray] x4 fun e w' => e = .returned (.bool (okG fDat p2 V Pl)) ∧ WPost base b v1 (if okG fDat p2 V Pl = true then l ++ lk ++ byG fDat p2 V Pl else l ++ lk) 0 x4 w' from tlay_any (WPost.refl h1) hbx 256 (by decide) p2 hlen2)
          rw [hok] at HC
          clear h1 hbx hlen2 hlen3 hwb HLV HLP hbx4
          go_wp2_with (first | (go_at_call 134; refine (unhide HC).mono ?_; rintro e z ⟨rfl, hz⟩; have HZ := hide hz; clear hz))
          go_ret
          exact ⟨l ++ lk, by rw [unhide HRB]; rfl, (unhide HKEY (l ++ lk) z (unhide HZ)).2.2, fun q => absurd ((unhide HRB).symm.trans q) (by decide)⟩
    · obtain rfl : k = n := by omega
      have hkn' : ¬ (k : Int) < (k : Int) := by omega
      have hd : fs.drop k = [] := List.drop_eq_nil_of_le (by rw [unhide HN]; omega)
      rw [hd] at hlq
      have hlq' : layG V Pl fs r = some (rk, lk) := by rw [hlq]; simp [layG]
      have HRB := hide (show RB = bareP rk by have hb := unhide HLB; rw [hlq'] at hb; exact hb)
      have HRL := hide (show RL = lk by have hb := unhide HLL; rw [hlq'] at hb; exact hb)
      have HRG := hide (show wr.rangeAt g 0 rk.cl from blk_range BK)
      have HWK := hide hWk
      have HIB := hide (fun W => isBare_any rk W)
      clear hd hlq hlq' hRk BK hWk hlk hkl
      go_wp2_with (first | refine wpList_load_mid rfl 34 (.tmp 5) rfl g 0 rfl rk.cl _ (unhide HRG) Tryz.underlying34 rfl size_rep ?_ | (go_at_call 67; refine (unhide HIB _).mono ?_; rintro e z ⟨rfl, hz⟩; have HZ := hide hz; clear hz))
      go_ret
      exact ⟨l ++ lk, by rw [unhide HRB]; rfl, (unhide HWK).below (unhide HZ), fun _ => by rw [unhide HRL]⟩
end Go.Proofs.YtpjoibolhkgkhaaGreatDoor
namespace Go.Proofs.YtpjoibolhkgkhaaGreatDoor
open Go.RowKit
set_option maxRecDepth 100000
theorem rep0_bytes (d : Nat) : Bytes (List.replicate d (0 : Int)) := fun j => by
  rw [List.getD_eq_getElem?_getD, List.getElem?_replicate]
  split <;> decide
theorem rep0_nums (d : Nat) : nums (strOfNums (List.replicate d (0 : Int))) = List.replicate d 0 := nums_strOfNums _ (rep0_bytes d)
theorem rep0_size (d : Nat) : (strOfNums (List.replicate d (0 : Int))).size = d := by rw [← nums_len, rep0_nums, List.length_replicate]
set_option maxHeartbeats 4000000 in
theorem layReplyN_any (kd : Int) (r : Rep) (hfull : fullP kd r.st = false) (w : World) (base b : Nat) (v : Value) (l : List Int) (hW : Wtr w base b v l 0) (hb : base ≤ w.heap.size) (hl : l.length ≤ 100) :
    Calls Tryz.prog 36 #[.pointer (some ⟨b, 0, none⟩), .int .i64 kd, .agg r.cs] w fun e w' => e = .returned (.bool (bareP r)) ∧ WPost base b v (l ++ List.replicate (szF (rpF kd)) 0) 0 w w' := by
  obtain ⟨g, hg⟩ : ∃ g, w.heap.size = g := ⟨_, rfl⟩
  obtain ⟨st, hst⟩ : ∃ q, r.st = q := ⟨_, rfl⟩
  have HFU := hide (isFull_any kd st)
  rw [← hst, hfull] at HFU
  obtain ⟨y, hy⟩ : ∃ Z, w.alloc (.cells r.cs 34) = Z := ⟨_, rfl⟩
  have BY : Blk y g r.cs 34 := by rw [← hy, ← hg]; exact Blk.new w _ _
  have hby : Below g w y := by rw [← hy, ← hg]; exact (Below.refl _ w).alloc (Nat.le_refl _) _
  have hbg : b < g := by rw [← hg]; exact hW.lt
  have c0 : y.cell? ⟨g, 0, none⟩ = some (.int .i64 st) := by rw [BY.cell, ← hst]; rfl
  have hWy : Wtr y base b v l 0 := hW.only (Only.of_below (P := fun _ => False) (by rw [hg]; exact hby)) (fun _ _ q => q)
  have hby0 : base ≤ y.heap.size := by have := hby.size; omega
  have HF := hide (rpf_any kd)
  have HLEN := hide (rpF_len kd)
  have HA := hide (fun f hf => (rpF_all kd f hf).isF)
  have hsz : szF (rpF kd) ≤ 1000 := by
    unfold rpF
    (repeat' split) <;> decide
  obtain ⟨fs, hfs⟩ : ∃ fs, rpF kd = fs := ⟨_, rfl⟩
  rw [hfs] at HF HLEN HA hsz ⊢
  have HIB := hide (fun W => isBare_any r W)
  have HY := hide (And.intro BY hWy)
  have HBW := hide (show ∀ (l' : List Int) (z : World), WPost base b v l' 0 y z → WPost base b v l' 0 w z from fun l' z hz => WPost.trans (Only.of_below (by rw [hg]; exact hby)) (fun k hk => .inl hk) hz)
  have hrc : r.cs = r.cl.toArray := rfl
  have HSZ := hide (show (Tryz.prog.info? 34).map (·.size) = some r.cl.length from size_rep)
  rw [hrc] at hy HY ⊢
  generalize bareP r = RB at *
  generalize r.cl = rl at *
  clear BY hby hWy hW hfs hfull hrc
  go_enter Tryz.func36, Tryz.ntmps36
  go_wp2_with fail
  clear hy
  refine (unhide HF y).mono ?_
  rintro e x ⟨fvv, rfl, hR, hx⟩
  obtain ⟨BY, hWy⟩ := unhide HY
  have BX := BY.below hx BY.lt
  have hWx := (WPost.refl hWy).below hx
  have d0 : x.cell? ⟨g, 0, none⟩ = some (.int .i64 st) := by rw [BX.cell, ← BY.cell]; exact c0
  have HX := hide (And.intro BX hWx)
  have HFS := hide (fieldsSize_any fs (unhide HA) (by have := unhide HLEN; omega) fvv x hR)
  clear BY hWy BX hWx hx c0 hR HY HF
  rw [hst] at HFU
  go_wp2_with fail
  refine (unhide HFU _).mono ?_
  rintro e x' ⟨rfl, hx'⟩
  subst x'
  clear d0
  go_wp2_with fail
  refine (unhide HFS).mono ?_
  rintro e x1 ⟨rfl, hx1⟩
  have BX1 := (unhide HX).1.below hx1 (unhide HX).1.lt
  have hWx1 := (unhide HX).2.below hx1
  have HX1 := hide (And.intro BX1 hWx1)
  obtain ⟨d, hd⟩ : ∃ d, szF fs = d := ⟨_, rfl⟩
  have HD9 := hide hd
  rw [hd] at hsz ⊢
  have HNO := hide (noughts_any d hsz x1)
  have HRN := hide (rep0_nums d)
  have hrs := rep0_size d
  have HGL := hide (show ∀ S, strOfNums (List.replicate d (0 : Int)) = S → l ++ List.replicate d 0 = l ++ nums S from fun S e => by rw [← e, unhide HRN])
  obtain ⟨S, hS⟩ : ∃ S, strOfNums (List.replicate d (0 : Int)) = S := ⟨_, rfl⟩
  rw [hS] at HNO hrs
  have HSE := hide (unhide HGL S hS)
  clear BX1 hWx1 hx1 HX HFS hd hS HRN HGL
  go_wp2_with fail
  refine (unhide HNO).mono ?_
  rintro e x2 ⟨rfl, hx2⟩
  have BX2 := (unhide HX1).1.below hx2 (unhide HX1).1.lt
  have hWx2 := (unhide HX1).2.below hx2
  obtain ⟨v1, h1, h2, h3⟩ := hWx2
  have HRW := hide (raw_any x2 base b v1 l 0 h1 (by have := h2.size; omega) S (by omega))
  rw [wl_good] at HRW
  have HFR := hide (show ∀ (l' : List Int) (z : World), WPost base b v1 l' 0 x2 z → z.rangeAt g 0 rl ∧ WPost base b v l' 0 w z from fun l' z hz => ⟨blk_range (hz.blk BX2 (fp_blk h1 BX2 (by decide) (by omega))), unhide HBW l' z (WPost.trans h2 h3 hz)⟩)
  clear BX2 h1 h2 h3 hx2 HX1 HNO
  go_wp2_with fail
  refine (unhide HRW).mono ?_
  rintro e x3 ⟨rfl, hW3⟩
  obtain ⟨hr3, hp3⟩ := unhide HFR _ x3 hW3
  have HRG := hide hr3
  have HP3 := hide hp3
  clear hr3 hp3 hW3 HRW
  go_wp2_with (first | refine wpList_load_mid rfl 34 (.tmp 5) rfl g 0 rfl rl _ (unhide HRG) Tryz.underlying34 rfl (unhide HSZ) ?_ | (go_at_call 67; refine (unhide HIB _).mono ?_; rintro e z ⟨rfl, hz⟩; have HZ := hide hz; clear hz))
  go_ret
  exact ⟨rfl, by rw [unhide HD9, unhide HSE]; exact (unhide HP3).below (unhide HZ)⟩
/-- what layReply answers and lays down, of any reply -/
def lyB (kd : Int) (r : Rep) (V Pl : List Int) : Bool := if fullP kd r.st = true then lgB kd r V Pl else bareP r
def lyL (kd : Int) (r : Rep) (V Pl : List Int) : List Int := if fullP kd r.st = true then lgL kd r V Pl else List.replicate (szF (rpF kd)) 0
theorem layReplyA_any (kd : Int) (r : Rep) (V Pl : List Int) (hvm : V.length = r.vm) (hpm : Pl.length = r.pm) (hm9 : r.vm ≤ 9223372036854775807 ∧ r.pm ≤ 9223372036854775807) (B : Nat) (w : World) (hLV : Lst w B r.vp V) (hLP : Lst w B r.pp Pl) (base b : Nat) (v : Value) (l : List Int) (hW : Wtr w base b v l 0) (hb : base ≤ w.heap.size) (hB : B ≤ base) (hl : l.length ≤ 100) :
    Calls Tryz.prog 36 #[.pointer (some ⟨b, 0, none⟩), .int .i64 kd, .agg r.cs] w fun e w' => ∃ l', e = .returned (.bool (lyB kd r V Pl)) ∧ WPost base b v l' 0 w w' ∧ (lyB kd r V Pl = true → l' = l ++ lyL kd r V Pl) := by
  by_cases h : fullP kd r.st = true
  · rw [lyB, if_pos h, lyL, if_pos h]
    exact layReplyG_any kd r V Pl h hvm hpm hm9 B w hLV hLP base b v l hW hb hB hl
  · rw [lyB, if_neg h, lyL, if_neg h]
    refine (layReplyN_any kd r (by simpa using h) w base b v l hW hb hl).mono ?_
    rintro e w' ⟨rfl, hp⟩
    exact ⟨_, rfl, hp, fun _ => rfl⟩
theorem outN_bytes (L : List Int) : Bytes (outN 1 L) := by
  induction L with
  | nil => exact fun j => by simp [outN]
  | cons x L ih =>
    rw [show outN 1 (x :: L) = numB x 1 ++ outN 1 L from rfl]
    exact Bytes.app (numB_bytes _ _) ih
theorem layG_len (V Pl : List Int) : ∀ (fs : List Fld), (∀ f ∈ fs, IsP f) → ∀ (r : Rep) (x : Rep × List Int), layG V Pl fs r = some x → x.2.length = szF fs ∧ Bytes x.2
  | [], _, r, x, h => by
    simp only [layG, Option.some.injEq] at h
    subst h
    exact ⟨rfl, fun j => by simp⟩
  | f :: fs, hF, r, x, h => by
    rw [layG] at h
    by_cases hok : okG f (exr f r Prt.nil).2 V Pl = true
    · rw [if_pos hok] at h
      cases hq : layG V Pl fs (exr f r Prt.nil).1 with
      | none => rw [hq] at h; simp at h
      | some y =>
        rw [hq] at h
        simp only [Option.map_some, Option.some.injEq] at h
        subst h
        have hf := hF f (by simp)
        obtain ⟨e1, e2⟩ := layG_len V Pl fs (fun g hg => hF g (by simp [hg])) _ y hq
        refine ⟨by simp only [List.length_append, szF, byG_len hf hok, e1], Bytes.app ?_ e2⟩
        unfold byG
        split
        · exact outN_bytes _
        · split
          · exact Bytes.app (Bytes.app (numB_bytes _ _) (outN_bytes _)) (rep0_bytes _)
          · unfold byF
            split
            · exact numB_bytes _ _
            · exact nums_bytes _
    · rw [if_neg hok] at h
      simp at h
theorem lyL_len (kd : Int) (r : Rep) (V Pl : List Int) : (lyL kd r V Pl).length ≤ 1024 ∧ Bytes (lyL kd r V Pl) := by
  unfold lyL
  split
  · unfold lgL
    cases h : layG V Pl (rpF kd) r with
    | none => exact ⟨by simp, fun j => by simp⟩
    | some x =>
      obtain ⟨e1, e2⟩ := layG_len V Pl _ (rpF_all kd) r x h
      have h1 := szF_le (rpF kd) (fun f hf => (rpF_all kd f hf).isF)
      have h2 := rpF_len kd
      exact ⟨by simp only [e1]; omega, e2⟩
  · have h1 := szF_le (rpF kd) (fun f hf => (rpF_all kd f hf).isF)
    have h2 := rpF_len kd
    exact ⟨by rw [List.length_replicate]; omega, rep0_bytes _⟩
/-- a reply's bytes ahead of its check -/
def eyL (kd : Int) (r : Rep) (V Pl : List Int) : List Int := numB r.st 1 ++ lyL kd r V Pl
set_option maxHeartbeats 4000000 in
theorem encodeReply_ok (k : Nat) (hk : k ≤ 12) (r : Rep) (V Pl : List Int) (hvm : V.length = r.vm) (hpm : Pl.length = r.pm) (hm9 : r.vm ≤ 9223372036854775807 ∧ r.pm ≤ 9223372036854775807) (hst : 0 ≤ r.st ∧ r.st ≤ 13) (hB : lyB (k : Int) r V Pl = true) (w : World) (hLV : Lst w w.heap.size r.vp V) (hLP : Lst w w.heap.size r.pp Pl) : Calls Tryz.prog 12 #[.int .i64 (k : Int), .agg r.cs] w fun e w' => e = .returned (.tuple #[.string (strOfNums (eyL (k : Int) r V Pl) ++ strOfNums (le4 (chkN ((k : Int) :: eyL (k : Int) r V Pl)))), .int .i64 0]) ∧ Below w.heap.size w w' := by
  obtain ⟨g, hg⟩ : ∃ g, w.heap.size = g := ⟨_, rfl⟩
  have HL := hide (fun W (hW0 : Below w.heap.size w W) base b v l hW hb hB9 hl => layReplyA_any (k : Int) r V Pl hvm hpm hm9 w.heap.size W (hLV.below hW0) (hLP.below hW0) base b v l hW hb hB9 hl)
  have HKB := hide (fun W => kindByte_any k hk W)
  have HK := hide (isReplyKind_any (k : Int))
  have HS := hide (isStatus_any r.st)
  rw [decide_eq_true (show (0 : Int) ≤ (k : Int) ∧ (k : Int) ≤ 12 by omega)] at HK
  rw [decide_eq_true hst] at HS
  have HFit := hide ((fits1 r.st).2 ⟨hst.1, by omega⟩)
  have HE := hide (show eyL (k : Int) r V Pl = numB r.st 1 ++ lyL (k : Int) r V Pl from rfl)
  have HEL := hide (show (eyL (k : Int) r V Pl).length ≤ 1025 ∧ Bytes (eyL (k : Int) r V Pl) from ⟨by have := (lyL_len (k : Int) r V Pl).1; simp only [eyL, List.length_append, numB_len]; omega, Bytes.app (numB_bytes _ _) (lyL_len (k : Int) r V Pl).2⟩)
  rw [hB] at HL
  obtain ⟨st, hst'⟩ : ∃ q, r.st = q := ⟨_, rfl⟩
  obtain ⟨y, hy⟩ : ∃ Z, w.alloc (.cells r.cs 34) = Z := ⟨_, rfl⟩
  have BY : Blk y g r.cs 34 := by rw [← hy, ← hg]; exact Blk.new w _ _
  have hby : Below g w y := by rw [← hy, ← hg]; exact (Below.refl _ w).alloc (Nat.le_refl _) _
  have hsy : y.heap.size = g + 1 := by rw [← hy, ← hg]; simp
  have c0 : y.cell? ⟨g, 0, none⟩ = some (.int .i64 st) := by rw [BY.cell, ← hst']; rfl
  have HY := hide (And.intro BY (And.intro hby hsy))
  have hrc : r.cs = r.cl.toArray := rfl
  have HSZ := hide (show (Tryz.prog.info? 34).map (·.size) = some r.cl.length from size_rep)
  rw [hrc] at hy HL HY ⊢
  rw [hst'] at HS HFit HE
  have hws : wrap64 st = st := wrap64_eq _ (by omega) (by omega)
  have HK12 := hide hk
  clear hrc hst' hst hB hk BY hby hsy hLV hLP hvm hpm hm9
  generalize lyL (k : Int) r V Pl = RL at *
  generalize eyL (k : Int) r V Pl = EL at *
  generalize r.cl = rl at *
  obtain ⟨SS, hSS⟩ : ∃ Z, strOfNums EL ++ strOfNums (le4 (chkN ((k : Int) :: EL))) = Z := ⟨_, rfl⟩
  rw [hSS]
  have HSS := hide hSS
  clear hSS
  go_enter Tryz.func12, Tryz.ntmps12
  go_wp2_with (first | (go_at_call 34; refine (unhide HK _).mono ?_; rintro e x ⟨rfl, hx⟩; subst x) | (go_at_call 35; refine (unhide HS _).mono ?_; rintro e x ⟨rfl, hx⟩; subst x))
  refine (newWriter_any _).mono ?_
  rintro e x1 ⟨rfl, hW1, hb1, hs1⟩
  obtain ⟨BY, hby, hsy⟩ := unhide HY
  rw [hsy] at hW1 hb1 hs1 ⊢
  have B1 := BY.below hb1 (by omega)
  have hbw1 : Below g w x1 := hby.trans (hb1.mono (by omega))
  have d0 : x1.cell? ⟨g, 0, none⟩ = some (.int .i64 st) := by rw [B1.cell]; rw [← BY.cell]; exact c0
  have hWr := WPost.refl hW1
  have HN := hide (wnumK hWr (by omega) 1 (by decide) (by decide) st (unhide HFit) (by simp) 1 rfl _ rfl)
  have H1 := hide (And.intro B1 (And.intro hbw1 hs1))
  have HW1 := hide hW1
  clear BY hby hsy hW1 hb1 hs1 B1 hbw1 hWr c0 HY hy
  go_wp2_with fail
  refine (unhide HN).mono ?_
  rintro e x2 ⟨rfl, hp2⟩
  obtain ⟨B1, hbw1, hs1⟩ := unhide H1
  have hW1 := unhide HW1
  have B2 := hp2.blk B1 (fp_blk hW1 B1 (by decide) (by omega))
  have HRG := hide (show x2.rangeAt g 0 rl from blk_range B2)
  have hp2' := hp2
  obtain ⟨v1, hq1, hq2, hq3⟩ := hp2
  have HL2 := hide (unhide HL x2 (by rw [hg]; exact hbw1.trans ((hp2'.bel (w := x1) (Below.refl _ _) (by omega)).mono (by omega))) (g + 1) (g + 1) v1 _ hq1 (by have := hq2.size; omega) (by omega) (by rw [List.nil_append, numB_len]; omega))
  have HQ := hide (And.intro hq2 hq3)
  clear B1 hbw1 hs1 hW1 B2 hq1 hq2 hq3 d0
  go_wp2_with (refine wpList_load_mid rfl 34 (.tmp 3) rfl g 0 rfl rl _ (unhide HRG) Tryz.underlying34 rfl (unhide HSZ) ?_)
  refine (unhide HL2).mono ?_
  rintro e x3 ⟨l', rfl, hp3, hl'⟩
  obtain ⟨hq2, hq3⟩ := unhide HQ
  have hp3' := WPost.trans hq2 hq3 hp3
  have hl2 := hl' trivial
  rw [hl2, List.nil_append, ← unhide HE] at hp3'
  clear hl2 hl' hp3 hq2 hq3 HL2 HQ
  have hen := unhide HEL
  have HD := hide (doneK hp3')
  have hsz : (strOfNums EL).size = EL.length := by rw [← nums_len, nums_strOfNums EL hen.2]
  have hkl : strOfNums [(k : Int)] ++ strOfNums EL = strOfNums ((k : Int) :: EL) := by simp [strOfNums, ByteArray.ext_iff]
  have hkb : Bytes ((k : Int) :: EL) := by
    intro j
    have := unhide HK12
    cases j with
    | zero => simp; omega
    | succ j => simpa using hen.2 j
  have hk1 : (strOfNums [(k : Int)]).size = 1 := by
    rw [← nums_len, nums_strOfNums]
    · rfl
    · exact (fun j => by cases j with | zero => exact hkb 0 | succ j => simp)
  have hsz2 : (strOfNums ((k : Int) :: EL)).size = EL.length + 1 := by rw [← nums_len, nums_strOfNums _ hkb]; rfl
  have HC := hide (fun W => checkOf_any (strOfNums ((k : Int) :: EL)) (by omega) W)
  rw [nums_strOfNums _ hkb] at HC
  have h4 : (strOfNums (le4 (chkN ((k : Int) :: EL)))).size = 4 := by rw [← nums_len, nums_strOfNums _ (le4_bytes _ (chkN_lt _))]; rfl
  have hadd : ¬ 9223372036854775807 < (strOfNums [(k : Int)]).size + (strOfNums EL).size := by omega
  have hadd2 : ¬ 9223372036854775807 < (strOfNums EL).size + (strOfNums (le4 (chkN ((k : Int) :: EL)))).size := by omega
  clear hp3' hsz hen hkb hk1 hsz2 h4
  generalize strOfNums (le4 (chkN ((k : Int) :: EL))) = S4 at *
  generalize strOfNums ((k : Int) :: EL) = S3 at *
  generalize strOfNums [(k : Int)] = S1 at *
  generalize strOfNums EL = S at *
  go_wp2_with fail
  refine (unhide HD).mono ?_
  rintro e x4 ⟨rfl, hp4⟩
  have hb4 : Below g w x4 := by
    obtain ⟨B1, hbw1, hs1⟩ := unhide H1
    exact hbw1.trans ((hp4.bel (w := x1) (Below.refl _ _) (by omega)).mono (by omega))
  have HB4 := hide hb4
  clear hp4 hb4 HD
  go_wp2_with fail
  refine (unhide HKB _).mono ?_
  rintro e x5 ⟨rfl, hx5⟩
  have HX5 := hide hx5
  clear hx5
  go_wp2_with (go_at_call 32; refine (unhide HC _).mono ?_; rintro e x6 ⟨rfl, hx6⟩; have HX6 := hide hx6; clear hx6)
  go_ret2
  have hb5 : Below g w x5 := (unhide HB4).trans ((unhide HX5).mono (by rw [← hg]; exact (unhide HB4).size))
  exact ⟨by rw [← unhide HSS]; rfl, by rw [hg]; exact hb5.trans ((unhide HX6).mono (by rw [← hg]; exact hb5.size))⟩
end Go.Proofs.YtpjoibolhkgkhaaGreatDoor
