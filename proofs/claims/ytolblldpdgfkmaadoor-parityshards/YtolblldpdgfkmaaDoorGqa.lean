import Derived.Test.YtolblldpdgfkmaaDoorGpp
import Derived.Test.YtolblldpdgfkmaaDoorShf
import Derived.BigQuiet
namespace Go.Proofs.YtolblldpdgfkmaaDoor
open Go.RowKit
set_option maxRecDepth 100000
theorem or32 (a b : Nat) (ha : a < 16777216) (hb : b < 256) : bits .or .u32 ((a : Int) * 256) (b : Int) = ((a * 256 + b : Nat) : Int) := by
  have e0 : ((a : Int) * 256) = ((a * 256 : Nat) : Int) := by omega
  have h1 : (BitVec.ofInt 32 ((a * 256 : Nat) : Int)).toNat = a * 256 := by
    rw [BitVec.ofInt_natCast, BitVec.toNat_ofNat]; exact Nat.mod_eq_of_lt (by omega)
  have h2 : (BitVec.ofInt 32 (b : Int)).toNat = b := by
    rw [BitVec.ofInt_natCast, BitVec.toNat_ofNat]; exact Nat.mod_eq_of_lt (by omega)
  rw [e0]
  show IntKind.u32.wrap ((BitVec.ofInt 32 ((a * 256 : Nat) : Int) ||| BitVec.ofInt 32 (b : Int)).toNat : Int) = _
  have e : a * 256 ||| b = a * 256 + b := by
    have := Nat.shiftLeft_add_eq_or_of_lt (i := 8) (b := b) (by omega) a
    rw [Nat.shiftLeft_eq] at this
    exact this.symm
  rw [BitVec.toNat_or, h1, h2, e]
  show ((a * 256 + b : Nat) : Int) % 4294967296 = _
  omega
/-- byte q of a text, as a number -/
def byN (b : ByteArray) (q : Nat) : Nat := ((nums b).getD q 0).toNat
theorem byN_lt (b : ByteArray) (q : Nat) : byN b q < 256 := by
  obtain ⟨h1, h2⟩ := nums_bytes b q
  unfold byN
  omega
theorem byN_v (b : ByteArray) (q : Nat) : ((byN b q : Nat) : Int) = (nums b).getD q 0 := by
  obtain ⟨h1, h2⟩ := nums_bytes b q
  unfold byN
  omega
/-- what the first k bytes tell -/
def tld (b : ByteArray) : Nat → Nat
  | 0 => 0
  | k + 1 => tld b k * 256 + byN b k
theorem tld_lt (b : ByteArray) : ∀ k, tld b k < 256 ^ k
  | 0 => by show 0 < 1; decide
  | k + 1 => by
    have h1 := tld_lt b k
    have h2 := byN_lt b k
    show tld b k * 256 + byN b k < 256 ^ (k + 1)
    rw [Nat.pow_succ]
    omega
def txV (b : ByteArray) : Nat := tld b 4
/-- is it the stream of a text -/
def txOk (b : ByteArray) (d : Nat) : Prop := 4 ≤ b.size ∧ txV b ≤ 60000 ∧ b.size = d * stN (txV b) d ∧ ∀ j, 4 + txV b ≤ j → j < b.size → byN b j = 0
def txT (b : ByteArray) : ByteArray := b.extract 4 (4 + txV b)
def TxQ (w : World) (b : ByteArray) (d : Nat) (e : Ending) (w' : World) : Prop := Below w.heap.size w w' ∧ (txOk b d → e = .returned (.tuple #[.string (txT b), .bool true])) ∧ (¬ txOk b d → e = .returned (.tuple #[.string ⟨#[]⟩, .bool false]))
theorem take_imp {c x : UInt8} : ∀ {l : List UInt8}, x ∈ l.takeWhile (· == c) → x = c
  | [], h => by cases h
  | y :: l, h => by
    by_cases q : y = c
    · rw [List.takeWhile_cons_of_pos (by simpa using q)] at h
      rcases List.mem_cons.1 h with e | e
      · rw [e, q]
      · exact take_imp e
    · rw [List.takeWhile_cons_of_neg (by simpa using q)] at h
      cases h
theorem mem_drop {l : List UInt8} {c x : UInt8} (hx : x ∈ l) (hc : x ≠ c) : x ∈ l.dropWhile (· == c) := by
  have h := List.takeWhile_append_dropWhile (p := (· == c)) (l := l)
  rw [← h] at hx
  rcases List.mem_append.1 hx with q | q
  · exact absurd (take_imp q) hc
  · exact q
theorem trim_some {l : List UInt8} {c x : UInt8} (hx : x ∈ l) (hc : x ≠ c) : Lib.trimB l c ≠ [] := by
  have h1 : x ∈ Lib.trimRightB l c := by
    unfold Lib.trimRightB
    rw [List.mem_reverse]
    exact mem_drop (List.mem_reverse.2 hx) hc
  have h2 : x ∈ Lib.trimB l c := mem_drop h1 hc
  intro e
  rw [e] at h2
  cases h2
theorem drop_none {l : List UInt8} {c : UInt8} (h : ∀ x ∈ l, x = c) : l.dropWhile (· == c) = [] := by
  induction l with
  | nil => rfl
  | cons y l ih =>
    rw [List.dropWhile_cons_of_pos (by simpa using h y (List.mem_cons_self ..))]
    exact ih (fun x hx => h x (List.mem_cons_of_mem _ hx))
theorem trim_none {l : List UInt8} {c : UInt8} (h : ∀ x ∈ l, x = c) : Lib.trimB l c = [] := by
  have e : Lib.trimRightB l c = [] := by
    unfold Lib.trimRightB
    rw [drop_none (fun x hx => h x (List.mem_reverse.1 hx))]
    rfl
  unfold Lib.trimB
  rw [e]
  rfl
theorem byN_at (b : ByteArray) (j : Nat) (hj : j < b.size) : byN b j = (b.data[j]'hj).toNat := by
  unfold byN nums
  have hj' : j < b.data.toList.length := hj
  rw [List.getD_eq_getElem?_getD, List.getElem?_map, List.getElem?_eq_getElem hj']
  simp
/-- what is behind a place is nothing but noughts, just if what is trimmed of it is nothing -/
theorem trim_iff (b : ByteArray) (lo : Nat) (hlo : lo ≤ b.size) : Lib.trimB (b.extract lo b.size).data.toList 0 = [] ↔ ∀ j, lo ≤ j → j < b.size → byN b j = 0 := by
  have hsz : (b.extract lo b.size).data.toList.length = b.size - lo := by
    have : (b.extract lo b.size).size = b.size - lo := by rw [ByteArray.size_extract]; omega
    exact this
  have hget : ∀ i (h : i < (b.extract lo b.size).data.toList.length), (b.extract lo b.size).data.toList[i] = b.data[lo + i]'(by rw [hsz] at h; show lo + i < b.size; omega) := fun i h => by
    simp [ByteArray.data_extract]
  constructor
  · intro h j h1 h2
    refine Classical.byContradiction (fun hne => ?_)
    have hi : j - lo < (b.extract lo b.size).data.toList.length := by rw [hsz]; omega
    have hm := List.getElem_mem hi
    refine trim_some hm (fun e => hne ?_) h
    rw [hget _ hi] at e
    have e2 : (b.data[j]'h2) = 0 := by
      have : lo + (j - lo) = j := by omega
      simpa [this] using e
    rw [byN_at b j h2, e2]
    rfl
  · intro h
    refine trim_none (fun x hx => ?_)
    obtain ⟨i, hi, rfl⟩ := List.getElem_of_mem hx
    rw [hget i hi]
    rw [hsz] at hi
    have := h (lo + i) (by omega) (by omega)
    rw [byN_at b (lo + i) (by omega)] at this
    exact UInt8.toNat_inj.1 (by rw [this]; rfl)
theorem slice_from (b : ByteArray) (v : Nat) (h : 4 + v ≤ b.size) (W : World) : (Instr.slice 9 (.string b) (some (.int .i64 (4 + (v : Int)))) none none).run Tryd.prog W = .ok (.string (b.extract (4 + v) b.size)) W := by
  have h1 : 0 ≤ 4 + (v : Int) ∧ 4 + (v : Int) ≤ (b.size : Int) := by omega
  have h4 : (4 + (v : Int)).toNat = 4 + v := by omega
  rw [run_slice_string_from_if W 9 b .i64 _ Tryd.underlying9, if_pos h1, h4]
set_option maxHeartbeats 4000000 in
theorem ptext_any (w : World) (b : ByteArray) (d : Nat) (hd1 : 1 ≤ d) (hd2 : d ≤ 16) (hb : b.size ≤ 2000000) : Calls Tryd.prog 21 #[.string b, .int .i64 (d : Int)] w (TxQ w b d) := by
  by_cases h4 : b.size < 4
  · have h4' : (b.size : Int) < 4 := by omega
    have HE := hide (show TxQ w b d (.returned (.tuple #[.string ⟨#[]⟩, .bool false])) w from ⟨Below.refl _ _, fun q => absurd q.1 (by omega), fun _ => rfl⟩)
    go_enter Tryd.func21, Tryd.ntmps21
    go_wp2
    go_ret2
    exact unhide HE
  have h4' : ¬ (b.size : Int) < 4 := by omega
  have HT := hide (fun k => tld_lt b k)
  have hV4 : tld b 4 = txV b := rfl
  go_enter Tryd.func21, Tryd.ntmps21
  go_wp2
  go_loopw [6, 14] (fun u i wr => ∃ k : Nat, k ≤ 4 ∧ i = .int .i64 (k : Int) ∧ u = .int .u32 (tld b k : Int) ∧ wr = w) (fun _ i _ => 4 - (intOf i).toNat)
  case atStart => exact ⟨0, by omega, rfl, rfl, rfl⟩
  case round =>
  obtain ⟨k, hk, rfl, rfl, hw⟩ := hrel
  subst wr
  by_cases hk4 : k < 4
  case pos =>
    have hk4' : (k : Int) < 4 := by omega
    have hix := index_str b k (by omega)
    rw [← byN_v] at hix
    have hbl := byN_lt b k
    have htl : tld b k < 16777216 := by
      have h1 := unhide HT k
      have h2 : 256 ^ k ≤ 256 ^ 3 := Nat.pow_le_pow_right (by decide) (by omega)
      omega
    have hor := or32 (tld b k) (byN b k) htl hbl
    have HS := hide (show tld b (k + 1) = tld b k * 256 + byN b k from rfl)
    generalize tld b k = t at *
    generalize byN b k = y at *
    clear hV4
    go_wp2
    go_roundw
    case rel => exact ⟨k + 1, by omega, by go_num, by rw [unhide HS]; congr 1, by first | rfl | trivial⟩
    case measure => simp [intOf] <;> omega
  obtain rfl : k = 4 := by omega
  have hk4' : ¬ ((4 : Nat) : Int) < 4 := by omega
  rw [hV4]
  clear hV4 HT
  by_cases hbig : 60000 < txV b
  · have hbig' : (60000 : Int) < (txV b : Int) := by omega
    have HE := hide (show TxQ w b d (.returned (.tuple #[.string ⟨#[]⟩, .bool false])) w from ⟨Below.refl _ _, fun q => absurd q.2.1 (by omega), fun _ => rfl⟩)
    generalize txV b = v at *
    go_wp2
    go_ret2
    exact unhide HE
  have hbig' : ¬ (60000 : Int) < (txV b : Int) := by omega
  have HSZ := hide (fun W => pssize_any W (txV b) d (by omega) hd1 hd2)
  have hle := stN_le (txV b) d hd1
  obtain ⟨T, hT⟩ : ∃ q, d * stN (txV b) d = q := ⟨_, rfl⟩
  rw [hT] at HSZ hle
  by_cases hbT : b.size = T
  case neg =>
    have hbT' : ((b.size : Int) != (T : Int)) = true := by simp; omega
    have HE := hide (show TxQ w b d (.returned (.tuple #[.string ⟨#[]⟩, .bool false])) w from ⟨Below.refl _ _, fun q => absurd q.2.2.1 (by rw [hT]; exact hbT), fun _ => rfl⟩)
    generalize txV b = v at *
    clear hT hle
    go_wp2_with fail
    refine (unhide HSZ _).mono ?_
    rintro e w9 ⟨rfl, hw9⟩
    subst w9
    go_wp2
    go_ret2
    exact unhide HE
  have hbT' : ((b.size : Int) != (T : Int)) = false := by simp; omega
  have hv4 : 4 + txV b ≤ b.size := by omega
  have HQ := hide (trim_iff b (4 + txV b) hv4)
  have HOK := hide (show ∀ z : Prop, (z ↔ ∀ j, 4 + txV b ≤ j → j < b.size → byN b j = 0) → (z ↔ txOk b d) from fun z hz => hz.trans ⟨fun h => ⟨by omega, by omega, by rw [hT]; exact hbT, h⟩, fun h => h.2.2.2⟩)
  have HTR := hide (fun W => Tryd.strings_Trim_one (b.extract (4 + txV b) b.size) 0 (by decide) W (by rw [ByteArray.size_extract]; omega))
  have HX := hide (show txT b = b.extract 4 (4 + txV b) from rfl)
  have hsl1 := slice_str b 4 (txV b) hv4
  simp only [Int.cast_ofNat_Int] at hsl1
  generalize txV b = v at *
  clear hle hT hbT
  go_wp2_with fail
  refine (unhide HSZ _).mono ?_
  rintro e w9 ⟨rfl, hw9⟩
  subst w9
  have hsl2 := slice_from b v hv4
  have hwv : IntKind.i64.wrap (4 + (v : Int)) = 4 + (v : Int) := wrapI_eq _ (by omega) (by omega)
  go_wp2_with fail
  go_quiet (fail)
  rename_i nq
  clear hsl1 hsl2 hwv
  obtain ⟨tb, htb⟩ : ∃ q : ByteArray, (⟨(Lib.trimB (b.extract (4 + v) b.size).data.toList 0).toArray⟩ : ByteArray) = q := ⟨_, rfl⟩
  rw [htb] at HTR
  obtain ⟨S2, hS2⟩ : ∃ q, b.extract (4 + v) b.size = q := ⟨_, rfl⟩
  have HZ := hide (show tb = ⟨#[]⟩ ↔ txOk b d from unhide HOK _ ((show tb = ⟨#[]⟩ ↔ Lib.trimB (b.extract (4 + v) b.size).data.toList 0 = [] from ⟨fun h => by
    rw [← htb] at h
    have h2 := congrArg ByteArray.data h
    simpa using h2, fun h => by rw [← htb, h]⟩).trans (unhide HQ)))
  rw [hS2] at HTR ⊢
  clear htb hS2 HQ HOK
  obtain ⟨S1, hS1⟩ : ∃ q, b.extract 4 (4 + v) = q := ⟨_, rfl⟩
  rw [hS1] at HX ⊢
  clear hS1
  have hwd := below_drewN (Below.refl w.heap.size w) nq
  have HWD := hide hwd
  clear hwd
  go_wp2_with fail
  refine (unhide HTR _).mono ?_
  rintro e w9 ⟨rfl, hw9⟩
  have HB9 := hide (show Below w.heap.size w w9 from by
    rcases hw9 with q | q
    · rw [q]; exact unhide HWD
    · rw [q]; exact (unhide HWD).drew)
  clear hw9 HTR HWD
  by_cases htb : tb = ⟨#[]⟩
  · have HE := hide (show TxQ w b d (.returned (.tuple #[.string S1, .bool true])) w9 from ⟨unhide HB9, fun _ => by rw [unhide HX], fun q => absurd ((unhide HZ).1 htb) q⟩)
    subst htb
    clear HZ
    go_wp2
    go_ret2
    exact unhide HE
  · have HE := hide (show TxQ w b d (.returned (.tuple #[.string ⟨#[]⟩, .bool false])) w9 from ⟨unhide HB9, fun q => absurd ((unhide HZ).2 q) htb, fun _ => rfl⟩)
    have hem : (tb.toList == (⟨#[]⟩ : ByteArray).toList) = false := str_ne htb
    have hem2 : tb.toList.isEmpty = false := by simpa using hem
    clear HZ htb
    go_wp2
    go_ret2
    exact unhide HE
end Go.Proofs.YtolblldpdgfkmaaDoor
