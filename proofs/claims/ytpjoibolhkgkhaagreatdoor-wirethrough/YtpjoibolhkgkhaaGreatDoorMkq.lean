import Derived.Test.YtpjoibolhkgkhaaGreatDoorChk
import Derived.Test.YtpjoibolhkgkhaaGreatDoorNmb
namespace Go.Proofs.YtpjoibolhkgkhaaGreatDoor
open Go.RowKit
/-- A number of 32 bits as four bytes, the lowest first. -/
def le4 (c : Nat) : List Int := [((c % 256 : Nat) : Int), ((c / 256 % 256 : Nat) : Int), ((c / 65536 % 256 : Nat) : Int), ((c / 16777216 : Nat) : Int)]
/-- A page's first 252 bytes; the page. -/
def pageL (kind number : Int) (body : List Int) : List Int := [83, 66] ++ (numB kind 1 ++ numB (body.length : Int) 1) ++ numB number 4 ++ body ++ List.replicate (244 - body.length) 0
def makeL (kind number : Int) (body : List Int) : List Int := pageL kind number body ++ le4 (chkN (pageL kind number body))
def errM (kind number : Int) (n : Nat) : Int := if ¬ fitsP kind 1 ∨ ¬ fitsP number 4 then 1 else if 244 < n then 32 else 0
def makeB (kind number : Int) (body : ByteArray) : ByteArray := if errM kind number body.size = 0 then strOfNums (makeL kind number (nums body)) else ⟨#[]⟩
theorem pageL_len (kind number : Int) (body : List Int) (h : body.length ≤ 244) : (pageL kind number body).length = 252 := by simp [pageL, numB_len]; omega
theorem makeL_len (kind number : Int) (body : List Int) (h : body.length ≤ 244) : (makeL kind number body).length = 256 := by rw [makeL, List.length_append, pageL_len _ _ _ h]; rfl
theorem Bytes.app {a b : List Int} (ha : Bytes a) (hb : Bytes b) : Bytes (a ++ b) := by
  intro j
  rw [List.getD_eq_getElem?_getD, List.getElem?_append]
  split
  · rw [← List.getD_eq_getElem?_getD]; exact ha j
  · rw [← List.getD_eq_getElem?_getD]; exact hb _
theorem Bytes.of_mem {a : List Int} (h : ∀ x ∈ a, 0 ≤ x ∧ x < 256) : Bytes a := by
  intro j
  rw [List.getD_eq_getElem?_getD]
  cases e : a[j]? with
  | none => simp
  | some x => exact h x (List.mem_of_getElem? e)
theorem Bytes.mem {a : List Int} (h : Bytes a) {x : Int} (hx : x ∈ a) : 0 ≤ x ∧ x < 256 := by
  obtain ⟨j, hj, e⟩ := List.getElem_of_mem hx
  have := h j
  rw [List.getD_eq_getElem?_getD, List.getElem?_eq_getElem hj, e] at this
  simpa using this
theorem chkN_lt (l : List Int) : chkN l ≤ 4294967295 := by unfold chkN; omega
theorem le4_bytes (c : Nat) (h : c ≤ 4294967295) : Bytes (le4 c) := Bytes.of_mem (by
  intro x hx
  simp [le4] at hx
  rcases hx with rfl | rfl | rfl | rfl <;> omega)
theorem zeros_byte (n : Nat) : Bytes (List.replicate n 0) := Bytes.of_mem (by intro x hx; rw [(List.mem_replicate.1 hx).2]; omega)
theorem pageL_bytes (kind number : Int) (body : List Int) (h : Bytes body) : Bytes (pageL kind number body) :=
  ((((Bytes.of_mem (by intro x hx; simp at hx; omega)).app ((numB_bytes _ _).app (numB_bytes _ _))).app (numB_bytes _ _)).app h).app (zeros_byte _)
theorem makeL_bytes (kind number : Int) (body : List Int) (h : Bytes body) : Bytes (makeL kind number body) := (pageL_bytes _ _ _ h).app (le4_bytes _ (chkN_lt _))
theorem fits1 (x : Int) : fitsP x 1 ↔ 0 ≤ x ∧ x ≤ 255 := by
  unfold fitsP
  rw [show (2 : Int) ^ (8 * 1) = 256 by decide]
  omega
theorem fits4 (x : Int) : fitsP x 4 ↔ 0 ≤ x ∧ x ≤ 4294967295 := by
  unfold fitsP
  rw [show (2 : Int) ^ (8 * 4) = 4294967296 by decide]
  omega
theorem numB1 (x : Int) (h0 : 0 ≤ x) (h : x ≤ 255) : numB x 1 = [x] := by
  simp [numB, List.range_succ]
  omega
theorem i64_and255 (c : Nat) (h : c < 9223372036854775808) : bits .and .i64 (c : Int) 255 = ((c % 256 : Nat) : Int) := by
  have hx : c &&& 255 = c % 256 := Nat.and_two_pow_sub_one_eq_mod c 8
  have h1 : (BitVec.ofInt 64 (c : Int)).toNat = c := by
    rw [BitVec.ofInt_natCast, BitVec.toNat_ofNat]; exact Nat.mod_eq_of_lt (by omega)
  have h2 : (BitVec.ofInt 64 (255 : Int)).toNat = 255 := by decide
  show IntKind.i64.wrap ((BitVec.ofInt 64 (c : Int) &&& BitVec.ofInt 64 (255 : Int)).toNat : Int) = _
  rw [BitVec.toNat_and, h1, h2, hx, IntKind.wrap_i64]
  omega
end Go.Proofs.YtpjoibolhkgkhaaGreatDoor
