import Derived.Test.YtolblldpdgfkmaaDoorGrg
namespace Go.Proofs.YtolblldpdgfkmaaDoor
open Go.RowKit
set_option maxRecDepth 100000
/-- how long a text is, in four bytes -/
def hd4 (z : Nat) : List Int := [(z : Int) / 16777216, (z : Int) / 65536, (z : Int) / 256 % 256, (z : Int) % 256]
theorem hd4_bytes (z : Nat) (hz : z ≤ 70000) : Bytes (hd4 z) := by
  intro j
  match j with
  | 0 => show 0 ≤ (z : Int) / 16777216 ∧ _; exact ⟨by omega, by show (z : Int) / 16777216 < 256; omega⟩
  | 1 => show 0 ≤ (z : Int) / 65536 ∧ _; exact ⟨by omega, by show (z : Int) / 65536 < 256; omega⟩
  | 2 => show 0 ≤ (z : Int) / 256 % 256 ∧ _; exact ⟨by omega, by show (z : Int) / 256 % 256 < 256; omega⟩
  | 3 => show 0 ≤ (z : Int) % 256 ∧ _; exact ⟨by omega, by show (z : Int) % 256 < 256; omega⟩
  | j + 4 => show 0 ≤ (0 : Int) ∧ (0 : Int) < 256; decide
/-- how many bytes there are for each shard of data -/
def stN (z d : Nat) : Nat := (4 + z + d - 1) / d
theorem stN_le (z d : Nat) (hd : 1 ≤ d) : 4 + z ≤ d * stN z d ∧ d * stN z d ≤ 4 + z + d - 1 := by
  unfold stN
  have h := Nat.div_add_mod (4 + z + d - 1) d
  have h2 := Nat.mod_lt (4 + z + d - 1) (show d > 0 by omega)
  omega
def stZ (z d : Nat) : Nat := d * stN z d - (4 + z)
/-- the stream of a text -/
def stB (s : ByteArray) (d : Nat) : ByteArray := strOfNums (hd4 s.size) ++ s ++ strOfNums (List.replicate (stZ s.size d) 0)
theorem stB_size (s : ByteArray) (d : Nat) (hd : 1 ≤ d) : (stB s d).size = d * stN s.size d := by
  have h := stN_le s.size d hd
  unfold stB stZ
  rw [ByteArray.size_append, ByteArray.size_append, strOfNums_size, strOfNums_size, List.length_replicate]
  show 4 + s.size + _ = _
  omega
theorem st_wrap (z d : Nat) (hz : z ≤ 70000) (hd1 : 1 ≤ d) (hd2 : d ≤ 16) : wrap64 (wrap64 ((d : Int) * (stN z d : Int)) - (4 + (z : Int))) = (stZ z d : Int) := by
  have h := stN_le z d hd1
  unfold stZ
  generalize stN z d = N at *
  rw [← Int.natCast_mul]
  generalize d * N = T at *
  have hw1 : wrap64 (T : Int) = T := wrap64_eq _ (by omega) (by omega)
  rw [hw1, wrap64_eq _ (by omega) (by omega)]
  omega
theorem st_quo (z d : Nat) (hd : 1 ≤ d) : (4 + (z : Int) + (d : Int) - 1) / (d : Int) = (stN z d : Int) := by
  unfold stN
  rw [Int.natCast_ediv]
  congr 1
  omega
theorem stZ_le (z d : Nat) (hd1 : 1 ≤ d) : stZ z d ≤ d := by
  have h := stN_le z d hd1
  unfold stZ
  generalize d * stN z d = T at *
  omega
set_option maxHeartbeats 4000000 in
theorem rstream_any (w : World) (s : ByteArray) (d : Nat) (hd1 : 1 ≤ d) (hd2 : d ≤ 16) (hs : s.size ≤ 70000) : Calls Tryd.prog 23 #[.string s, .int .i64 (d : Int)] w fun e w' => e = .returned (.tuple #[.string (stB s d), .int .i64 (stN s.size d : Int)]) ∧ Below w.heap.size w w' := by
  have hcv := run_convert_bytes_arg (P := Tryd.prog) (w.alloc (.cells #[.int .u8 ((s.size : Int) / 16777216), .int .u8 ((s.size : Int) / 65536), .int .u8 ((s.size : Int) / 256 % 256), .int .u8 ((s.size : Int) % 256)] 5)) 51 5 Tryd.underlying51 Tryd.underlying5 w.heap.size 0 4 4 (hd4 s.size) rfl (fun i hi => by
    rw [Nat.zero_add, (Blk.new w 5 _).cell]
    match i with
    | 0 => rfl
    | 1 => rfl
    | 2 => rfl
    | 3 => rfl) 9 Tryd.underlying9
  have hbel : Below w.heap.size w (w.alloc (.cells #[.int .u8 ((s.size : Int) / 16777216), .int .u8 ((s.size : Int) / 65536), .int .u8 ((s.size : Int) / 256 % 256), .int .u8 ((s.size : Int) % 256)] 5)) := (Below.refl _ w).alloc (Nat.le_refl _) _
  obtain ⟨x1, hx1⟩ : ∃ q, w.alloc (.cells #[.int .u8 ((s.size : Int) / 16777216), .int .u8 ((s.size : Int) / 65536), .int .u8 ((s.size : Int) / 256 % 256), .int .u8 ((s.size : Int) % 256)] 5) = q := ⟨_, rfl⟩
  rw [hx1] at hcv hbel
  have hq := st_quo s.size d hd1
  have hle := stZ_le s.size d hd1
  have hmk := run_make_u8 (stZ s.size d) (stZ s.size d) (Nat.le_refl _) (by omega) x1
  have hcv2 := run_convert_bytes_arg (P := Tryd.prog) (x1.alloc (.cells ((List.replicate (stZ s.size d) (0 : Int)).map (Value.int .u8)).toArray 5)) 51 5 Tryd.underlying51 Tryd.underlying5 x1.heap.size 0 (stZ s.size d) (stZ s.size d) (List.replicate (stZ s.size d) 0) (by simp) (fun i hi => (arr_new x1 .u8 (List.replicate (stZ s.size d) 0) 5 _ rfl).get i (by simpa using hi)) 9 Tryd.underlying9
  have HB := hide (show Below w.heap.size w (x1.alloc (.cells ((List.replicate (stZ s.size d) (0 : Int)).map (Value.int .u8)).toArray 5)) from hbel.alloc hbel.size _)
  have HE := hide (show stB s d = strOfNums (hd4 s.size) ++ s ++ strOfNums (List.replicate (stZ s.size d) 0) from rfl)
  obtain ⟨H, hH⟩ : ∃ q, strOfNums (hd4 s.size) = q := ⟨_, rfl⟩
  have hHs : H.size = 4 := by rw [← hH, strOfNums_size]; rfl
  rw [hH] at hcv HE
  have hbs : ((H ++ s).size : Int) = (s.size : Int) + 4 := by rw [ByteArray.size_append]; omega
  obtain ⟨Z, hZ⟩ : ∃ q, strOfNums (List.replicate (stZ s.size d) 0) = q := ⟨_, rfl⟩
  have hZs : Z.size ≤ 16 := by rw [← hZ, strOfNums_size, List.length_replicate]; omega
  rw [hZ] at hcv2 HE
  rw [unhide HE]
  obtain ⟨x2, hx2⟩ : ∃ q, x1.alloc (.cells ((List.replicate (stZ s.size d) (0 : Int)).map (Value.int .u8)).toArray 5) = q := ⟨_, rfl⟩
  rw [hx2] at hmk hcv2 HB
  have hzi := st_wrap s.size d hs hd1 hd2
  obtain ⟨ln, hln⟩ : ∃ q, stN s.size d = q := ⟨_, rfl⟩
  obtain ⟨zz, hzz2⟩ : ∃ q, stZ s.size d = q := ⟨_, rfl⟩
  rw [hln] at hq hzi ⊢
  rw [hzz2] at hmk hcv2 hzi
  clear hle hx2 hZ hH hln hzz2 HE hbel
  go_enter Tryd.func23, Tryd.ntmps23
  go_wp2
  go_ret2
  exact ⟨by rw [← hq]; rfl, unhide HB⟩
end Go.Proofs.YtolblldpdgfkmaaDoor
