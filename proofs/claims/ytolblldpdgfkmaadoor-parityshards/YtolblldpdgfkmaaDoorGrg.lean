import Derived.Test.YtolblldpdgfkmaaDoorGrf
namespace Go.Proofs.YtolblldpdgfkmaaDoor
open Go.RowKit
set_option maxRecDepth 100000
theorem xor8n (a b : Nat) (ha : a < 256) (hb : b < 256) : bits .xor .u8 (a : Int) (b : Int) = ((a ^^^ b : Nat) : Int) := by
  have hx : a ^^^ b < 2 ^ 8 := Nat.xor_lt_two_pow (by omega) (by omega)
  have h1 : (BitVec.ofInt 8 (a : Int)).toNat = a := by
    rw [BitVec.ofInt_natCast, BitVec.toNat_ofNat]; exact Nat.mod_eq_of_lt (by omega)
  have h2 : (BitVec.ofInt 8 (b : Int)).toNat = b := by
    rw [BitVec.ofInt_natCast, BitVec.toNat_ofNat]; exact Nat.mod_eq_of_lt (by omega)
  show IntKind.u8.wrap ((BitVec.ofInt 8 (a : Int) ^^^ BitVec.ofInt 8 (b : Int)).toNat : Int) = _
  rw [BitVec.toNat_xor, h1, h2]
  show ((a ^^^ b : Nat) : Int) % 256 = _
  omega
theorem sm_snoc (f : Nat → G) (x : Nat) : ∀ l : List Nat, sm f (l ++ [x]) = sm f l + f x
  | [] => by simp only [List.nil_append, sm, gadd_zero, gzero_add]
  | y :: l => by
    simp only [List.cons_append, sm]
    rw [sm_snoc f x l, gadd_assoc]
/-- the byte q of a text, as an element -/
def gB (s : ByteArray) (q : Nat) : G := gN ((nums s).getD q 0).toNat
theorem gB_v (s : ByteArray) (q : Nat) : (((gB s q).v : Nat) : Int) = (nums s).getD q 0 := by
  obtain ⟨h1, h2⟩ := nums_bytes s q
  show ((((nums s).getD q 0).toNat % 256 : Nat) : Int) = _
  omega
/-- elements as bytes -/
def gL (n : Nat) (f : Nat → G) : List Int := (List.range n).map (fun q => ((f q).v : Int))
theorem gL_len (n : Nat) (f : Nat → G) : (gL n f).length = n := by simp [gL]
theorem gL_get {n : Nat} (f : Nat → G) {q : Nat} (h : q < n) : (gL n f).getD q 0 = ((f q).v : Int) := by simp [gL, h]
theorem gL_congr {n : Nat} {f g : Nat → G} (h : ∀ q, q < n → f q = g q) : gL n f = gL n g := by
  unfold gL
  refine List.map_congr_left (fun q hq => ?_)
  rw [h q (List.mem_range.1 hq)]
theorem gL_set {n : Nat} (f : Nat → G) (a : Nat) (x : G) : (gL n f).set a (x.v : Int) = gL n (fun q => if q = a then x else f q) := by
  apply List.ext_getElem
  · simp [gL]
  · intro b h1 h2
    simp only [gL, List.getElem_map, List.getElem_range, List.getElem_set]
    by_cases q : a = b
    · rw [if_pos q, if_pos q.symm]
    · rw [if_neg q, if_neg (fun e => q e.symm)]
theorem gL_zero (n : Nat) : gL n (fun _ => g0) = List.replicate n 0 := by
  refine List.eq_replicate_iff.2 ⟨gL_len n _, fun x hx => ?_⟩
  obtain ⟨j, _, rfl⟩ := List.mem_map.1 hx
  rfl
theorem gL_bytes (n : Nat) (f : Nat → G) : Bytes (gL n f) := by
  intro q
  by_cases h : q < n
  · rw [gL_get f h]
    have := (f q).h
    omega
  · rw [List.getD_eq_getElem?_getD, List.getElem?_eq_none (by rw [gL_len]; omega)]
    decide
/-- what the first i shards of data give to the byte q of the shard k -/
def shF (n k : Nat) (L : List ByteArray) (i q : Nat) : G := sm (fun j => wt n k j * gB (L.getD j ByteArray.empty) q) (List.range i)
theorem shF_succ (n k : Nat) (L : List ByteArray) (i q : Nat) : shF n k L (i + 1) q = shF n k L i q + wt n k i * gB (L.getD i ByteArray.empty) q := by
  unfold shF
  rw [List.range_succ, sm_snoc]
def mixF (F : Nat → Nat → G) (i a q : Nat) : G := if q < a then F (i + 1) q else F i q
theorem mix_set (F : Nat → Nat → G) (len i a : Nat) : (gL len (mixF F i a)).set a ((F (i + 1) a).v : Int) = gL len (mixF F i (a + 1)) := by
  rw [gL_set]
  refine gL_congr (fun q _ => ?_)
  unfold mixF
  by_cases h : q = a
  · rw [if_pos h, if_pos (by omega), h]
  · rw [if_neg h]
    by_cases h2 : q < a
    · rw [if_pos h2, if_pos (by omega)]
    · rw [if_neg h2, if_neg (by omega)]
/-- texts at a place, in blocks below B -/
def GTx (w : World) (B : Nat) (p : Option Addr) (L : List ByteArray) : Prop := ∀ j, j < L.length → ∃ g o, p = some ⟨g, o, none⟩ ∧ g < B ∧ w.cell? ⟨g, o + j, none⟩ = some (.string (L.getD j ByteArray.empty))
theorem GTx.below {w w' : World} {B : Nat} {p : Option Addr} {L : List ByteArray} (h : GTx w B p L) (hb : Below B w w') : GTx w' B p L := fun j hj => by
  obtain ⟨g, o, e, hg, hc⟩ := h j hj
  exact ⟨g, o, e, hg, (hb.cell (p := ⟨g, o + j, none⟩) hg).trans hc⟩
/-- the shard k -/
def shT (n k len : Nat) (L : List ByteArray) : ByteArray := strOfNums (gL len (shF n k L n))
set_option maxHeartbeats 8000000 in
theorem rshard_any (w : World) (L : List ByteArray) (B n k len c : Nat) (p : Option Addr) (hn : L.length = n) (hn1 : 1 ≤ n) (hn2 : n ≤ 16) (hk : k < n + 8) (hlen : len ≤ 70000) (hs : ∀ i, i < n → (L.getD i ByteArray.empty).size = len) (hL : GTx w B p L) (hB : B ≤ w.heap.size) : Calls Tryd.prog 39 #[.slice p n c, .int .i64 (k : Int)] w fun e w' => e = .returned (.string (shT n k len L)) ∧ Below w.heap.size w w' := by
  have HL := hide (And.intro hn (And.intro hs (And.intro hL hB)))
  obtain ⟨g, o, rfl, hg, hc0⟩ := hL 0 (by omega)
  have hs0 := hs 0 (by omega)
  obtain ⟨T0, hT0⟩ : ∃ q, L.getD 0 ByteArray.empty = q := ⟨_, rfl⟩
  rw [hT0] at hc0 hs0
  simp only [Nat.add_zero] at hc0
  have hmk := run_make_u8 len len (Nat.le_refl _) (by omega) w
  obtain ⟨F, hF⟩ : ∃ q, shF n k L = q := ⟨_, rfl⟩
  have HF := hide (show ∀ i q, F (i + 1) q = F i q + wt n k i * gB (L.getD i ByteArray.empty) q from fun i q => by rw [← hF]; exact shF_succ n k L i q)
  have X0 := hide (show KeyInv w (gL len (F 0)) (w.alloc (.cells ((List.replicate len (0 : Int)).map (Value.int .u8)).toArray 5)) from ⟨by
    have e : gL len (F 0) = List.replicate len 0 := by rw [← gL_zero, ← hF]; rfl
    rw [e]; exact arr_new w .u8 _ 5 _ rfl, (Below.refl _ _).alloc (Nat.le_refl _) _, by simp⟩)
  unfold shT
  rw [hF]
  generalize hx : w.alloc (.cells ((List.replicate len (0 : Int)).map (Value.int .u8)).toArray 5) = x2 at *
  clear hx hF hL hs hn hT0
  have h0n : (0 : Int) < (n : Int) := by omega
  have hT0 : (T0.size : Int) = (len : Int) := by omega
  go_enter Tryd.func39, Tryd.ntmps39
  go_wp2
  go_loopw [6] (fun i wr => ∃ t : Nat, t ≤ n ∧ i = .int .i64 (t : Int) ∧ Hid (KeyInv w (gL len (F t)) wr)) (fun i _ => n - (intOf i).toNat)
  case atStart => exact ⟨0, by omega, rfl, X0⟩
  case round =>
  obtain ⟨i, hi, rfl, HK⟩ := hrel
  obtain ⟨wi, rfl⟩ : ∃ q, q = wr := ⟨_, rfl⟩
  clear X0 hmk hc0
  by_cases hin : i < n
  case neg =>
    obtain rfl : i = n := by omega
    have hin' : ¬ (i : Int) < (i : Int) := by omega
    obtain ⟨S, hS⟩ : ∃ q, gL len (F i) = q := ⟨_, rfl⟩
    have hSl : S.length = len := by rw [← hS, gL_len]
    have hSB : Bytes S := by rw [← hS]; exact gL_bytes _ _
    rw [hS] at HK
    have HS := hide hS
    clear hS
    have hkw := unhide HK
    have hcv := run_convert_bytes_arg (P := Tryd.prog) _ 51 5 Tryd.underlying51 Tryd.underlying5 w.heap.size 0 len len S hSl (fun i hi => hkw.1.get i (by rw [hSl]; omega)) 9 Tryd.underlying9
    clear hkw hSB
    go_wp2
    go_ret
    exact ⟨by rw [unhide HS]; rfl, (unhide HK).2.1⟩
  have hin' : (i : Int) < (n : Int) := by omega
  have HW := hide (fun W => rweight_any n k i hn2 hk hin W)
  obtain ⟨g', o', e', _, hci⟩ := (unhide HL).2.2.1 i (by rw [(unhide HL).1]; exact hin)
  obtain ⟨rfl, rfl⟩ : g' = g ∧ o' = o := by injection e' with e; injection e with e1 e2; exact ⟨e1.symm, e2.symm⟩
  have hsi := (unhide HL).2.1 i hin
  obtain ⟨Ti, hTi⟩ : ∃ q, L.getD i ByteArray.empty = q := ⟨_, rfl⟩
  rw [hTi] at hci hsi
  have HFi := hide (show ∀ q, F (i + 1) q = F i q + wt n k i * gB Ti q from fun q => by rw [unhide HF, hTi])
  obtain ⟨wv, hwv⟩ : ∃ q, wt n k i = q := ⟨_, rfl⟩
  rw [hwv] at HFi HW
  clear hwv hTi
  go_wp2_with fail
  refine (unhide HW _).mono ?_
  rintro e w' ⟨rfl, hw'⟩
  subst w'
  have hwl : g' < w.heap.size := Nat.lt_of_lt_of_le hg (unhide HL).2.2.2
  go_wp2
  go_loopw [8] (fun x wx => ∃ a : Nat, a ≤ len ∧ x = .int .i64 (a : Int) ∧ Hid (KeyInv w (gL len (mixF F i a)) wx)) (fun x _ => len - (intOf x).toNat)
  case atStart => exact ⟨0, by omega, rfl, by
    have e : gL len (mixF F i 0) = gL len (F i) := gL_congr (fun q _ => if_neg (by omega))
    rw [e]
    exact HK⟩
  case round =>
  obtain ⟨a, ha, rfl, HI⟩ := hrel
  obtain ⟨wa, rfl⟩ : ∃ q, q = wr := ⟨_, rfl⟩
  clear HK HW
  by_cases ha2 : a < len
  case neg =>
    obtain rfl : a = len := by omega
    have ha' : ¬ (a : Int) < (a : Int) := by omega
    have HN := hide (show KeyInv w (gL a (F (i + 1))) wa from by
      have e : gL a (mixF F i a) = gL a (F (i + 1)) := gL_congr (fun q hq => if_pos hq)
      rw [← e]
      exact unhide HI)
    clear HI
    go_wp2
    go_roundw
    case rel => exact ⟨i + 1, by omega, by go_num, HN⟩
    case measure => simp [intOf]; omega
  have ha' : (a : Int) < (len : Int) := by omega
  have zz := (unhide HI).1.get0 a (by rw [gL_len]; exact ha2)
  have ff := (unhide HI).1.free0 a (by rw [gL_len]; exact ha2)
  rw [gL_get _ ha2, show mixF F i a a = F i a from if_neg (by omega)] at zz
  have hca : wa.cell? ⟨g', o' + i, none⟩ = some (.string Ti) := ((unhide HI).2.1.cell (p := ⟨g', o' + i, none⟩) hwl).trans hci
  have hix := index_str Ti a (by omega)
  rw [← gB_v] at hix
  have hFa := unhide HFi a
  have hwh := wv.h
  obtain ⟨gb, hgb⟩ : ∃ q, gB Ti a = q := ⟨_, rfl⟩
  rw [hgb] at hix hFa
  have hbh := gb.h
  have hoh := (F i a).h
  clear hgb
  by_cases hw0 : wv.v = 0
  case pos =>
    have hw0' : ((wv.v : Int) != 0) = false := by simp; omega
    have hnew : F (i + 1) a = F i a := by rw [hFa, v_zero.1 hw0, gzero_mul, gadd_zero]
    have hx0 : bits .xor .u8 (((F i a).v : Nat) : Int) 0 = (((F i a).v : Nat) : Int) := by
      have := xor8n (F i a).v 0 hoh (by decide)
      simpa using this
    have HU := hide (mix_set F len i a)
    rw [hnew] at HU
    obtain ⟨ov, hov⟩ : ∃ q, (F i a).v = q := ⟨_, rfl⟩
    rw [hov] at zz hx0 HU
    have HP := hide ((unhide HI).put a (by rw [gL_len]; exact ha2) (ov : Int) (show (gL len (mixF F i a)).set a (ov : Int) = gL len (mixF F i (a + 1)) from unhide HU))
    clear HI
    go_wp2
    go_roundw
    case rel => exact ⟨a + 1, by omega, by go_num, HP⟩
    case measure => simp [intOf]; omega
  have hw0' : ((wv.v : Int) != 0) = true := by simp; omega
  by_cases hb0 : gb.v = 0
  case pos =>
    have hnew : F (i + 1) a = F i a := by rw [hFa, v_zero.1 hb0, gmul_zero, gadd_zero]
    have hx0 : bits .xor .u8 (((F i a).v : Nat) : Int) 0 = (((F i a).v : Nat) : Int) := by
      have := xor8n (F i a).v 0 hoh (by decide)
      simpa using this
    have HU := hide (mix_set F len i a)
    rw [hnew] at HU
    obtain ⟨ov, hov⟩ : ∃ q, (F i a).v = q := ⟨_, rfl⟩
    rw [hov] at zz hx0 HU
    rw [hb0] at hix
    simp only [Int.cast_ofNat_Int] at hix
    have HP := hide ((unhide HI).put a (by rw [gL_len]; exact ha2) (ov : Int) (show (gL len (mixF F i a)).set a (ov : Int) = gL len (mixF F i (a + 1)) from unhide HU))
    clear HI
    go_wp2
    go_roundw
    case rel => exact ⟨a + 1, by omega, by go_num, HP⟩
    case measure => simp [intOf]; omega
  have hb0' : ((gb.v : Int) != 0) = true := by simp; omega
  have HM := hide (fun W => rmul_any wv.v gb.v hwh hbh W)
  have hpl : gm wv.v gb.v < 256 := gm_lt _ _ hwh hbh
  have hx1 := xor8n (F i a).v (gm wv.v gb.v) hoh hpl
  have hnew : (F (i + 1) a).v = (F i a).v ^^^ gm wv.v gb.v := by rw [hFa]; rfl
  have HU := hide (mix_set F len i a)
  rw [hnew] at HU
  obtain ⟨ov, hov⟩ : ∃ q, (F i a).v = q := ⟨_, rfl⟩
  obtain ⟨pm, hpm⟩ : ∃ q, gm wv.v gb.v = q := ⟨_, rfl⟩
  rw [hov] at zz hx1 HU
  rw [hpm] at hx1 HU HM hpl
  have hpw : (pm : Int) % 256 = (pm : Int) := by omega
  clear hov hpm hnew hFa
  go_wp2_with fail
  refine (unhide HM _).mono ?_
  rintro e w' ⟨rfl, hw'⟩
  subst w'
  have HP := hide ((unhide HI).put a (by rw [gL_len]; exact ha2) ((ov ^^^ pm : Nat) : Int) (show (gL len (mixF F i a)).set a ((ov ^^^ pm : Nat) : Int) = gL len (mixF F i (a + 1)) from unhide HU))
  clear HI
  go_wp2
  go_roundw
  case rel => exact ⟨a + 1, by omega, by go_num, HP⟩
  case measure => simp [intOf]; omega
end Go.Proofs.YtolblldpdgfkmaaDoor
