import Derived.Test.YtnkaooafenakdaaGreatDoorMr11
import Derived.Test.YtnkaooafenakdaaGreatDoorMr12
import Derived.Test.YtnkaooafenakdaaGreatDoorMr04
namespace Go.Proofs.YtnkaooafenakdaaGreatDoor
open Go.RowKit
/-- strings.Repeat of one nought. -/
def RepOk : Prop := ∀ (c : Nat) (W : World), c ≤ 244 → Calls Tryz.prog 64 #[.string ⟨#[0]⟩, .int .i64 (c : Int)] W fun e w' => e = .returned (.string (strOfNums (List.replicate c 0))) ∧ Below W.heap.size W w'
def pageV (kind number : Int) (body : ByteArray) : Value := .agg #[.int .i64 kind, .int .i64 number, .string body]
set_option maxRecDepth 100000 in
set_option maxHeartbeats 4000000 in
theorem make_ok (hRep : RepOk) (kind number : Int) (body : ByteArray) (hk : fitsP kind 1) (hn : fitsP number 4) (hbd : body.size ≤ 244) (w : World) :
    Calls Tryz.prog 125 #[.agg #[.int .i64 kind, .int .i64 number, .string body]] w fun e w' => e = .returned (.tuple #[.string (strOfNums (makeL kind number (nums body))), .int .i64 0]) ∧ Below w.heap.size w w' := by
  have HF1 := hide (fun W => fits_any kind 1 (by decide) W)
  rw [decide_eq_true hk] at HF1
  have HF4 := hide (fun W => fits_any number 4 (by decide) W)
  rw [decide_eq_true hn] at HF4
  have HNW := hide (fun W => newWriter_any W)
  have HR := hide hRep
  obtain ⟨n, hnB⟩ : ∃ n, body.size = n := ⟨_, rfl⟩
  have HE1 := hide (show errN 1 [kind, (n : Int)] = 0 by
    rw [errN, if_neg (by omega), if_pos]
    intro x hx
    simp at hx
    rcases hx with rfl | rfl
    · exact hk
    · exact (fits1 _).2 ⟨by omega, by omega⟩)
  have HE4 := hide (show errN 4 [number] = 0 by
    rw [errN, if_neg (by omega), if_pos]
    intro x hx
    simp at hx
    rw [hx]
    exact hn)
  obtain ⟨P, hP⟩ : ∃ P, pageL kind number (nums body) = P := ⟨_, rfl⟩
  have hPl : P.length = 252 := by rw [← hP]; exact pageL_len _ _ _ (by rw [nums_len]; exact hbd)
  have hPeq : [83, 66] ++ outN 1 [kind, (n : Int)] ++ outN 4 [number] ++ nums body ++ List.replicate (244 - n) 0 = P := by
    rw [← hP, pageL, nums_len, hnB]
    simp [outN]
  obtain ⟨c, hc⟩ : ∃ c, chkN P = c := ⟨_, rfl⟩
  have hcl : c ≤ 4294967295 := by rw [← hc]; exact chkN_lt _
  have hmk : makeL kind number (nums body) = P ++ le4 c := by rw [makeL, hP, hc]
  have hPb : Bytes P := by rw [← hP]; exact pageL_bytes _ _ _ (nums_bytes _)
  have HEC := hide (show errN 1 (le4 c) = 0 by
    rw [errN, if_neg (by omega), if_pos]
    intro x hx
    have := (le4_bytes c hcl).mem hx
    exact (fits1 _).2 ⟨by omega, by omega⟩)
  have hoc : outN 1 (le4 c) = le4 c := by
    have h1 : ∀ l : List Int, Bytes l → outN 1 l = l := by
      intro l
      induction l with
      | nil => intro _; rfl
      | cons x l ih =>
        intro hb
        have hx := hb.mem (List.mem_cons_self)
        have e1 : outN 1 (x :: l) = numB x 1 ++ outN 1 l := by simp [outN]
        rw [e1, numB1 x hx.1 (by omega), ih (Bytes.of_mem (fun y hy => hb.mem (List.mem_cons_of_mem _ hy)))]
        rfl
    exact h1 _ (le4_bytes c hcl)
  rw [hmk]
  have HCK := hide (fun W => check_g (strOfNums P) c (by rw [nums_strOfNums P hPb, hc]) (by
    have : (strOfNums P).size = P.length := by rw [← nums_len, nums_strOfNums P hPb]
    omega) W)
  have a0 := i64_and255 c (by omega)
  have a1 : bits .and .i64 ((c : Int) / 256) 255 = ((c / 256 % 256 : Nat) : Int) := by have := i64_and255 (c / 256) (by omega); rwa [show ((c / 256 : Nat) : Int) = (c : Int) / 256 by omega] at this
  have a2 : bits .and .i64 ((c : Int) / 65536) 255 = ((c / 65536 % 256 : Nat) : Int) := by have := i64_and255 (c / 65536) (by omega); rwa [show ((c / 65536 : Nat) : Int) = (c : Int) / 65536 by omega] at this
  obtain ⟨d0, hd0⟩ : ∃ d, c % 256 = d := ⟨_, rfl⟩
  obtain ⟨d1, hd1⟩ : ∃ d, c / 256 % 256 = d := ⟨_, rfl⟩
  obtain ⟨d2, hd2⟩ : ∃ d, c / 65536 % 256 = d := ⟨_, rfl⟩
  obtain ⟨d3, hd3⟩ : ∃ d, c / 16777216 = d := ⟨_, rfl⟩
  have hle : le4 c = [(d0 : Int), (d1 : Int), (d2 : Int), (d3 : Int)] := by rw [le4, hd0, hd1, hd2, hd3]
  rw [hd0] at a0
  rw [hd1] at a1
  rw [hd2] at a2
  have s3 : (c : Int) / 16777216 = (d3 : Int) := by omega
  have hsub : (244 : Int) - (n : Int) = ((244 - n : Nat) : Int) := by omega
  obtain ⟨z, hz⟩ : ∃ z, 244 - n = z := ⟨_, rfl⟩
  rw [hz] at hsub hPeq
  have HPE := hide hPeq
  have HLE := hide hle
  have HOC := hide hoc
  have HPL := hide hPl
  have hz244 : z ≤ 244 := by omega
  clear hk hn hRep hP hPl hPeq hc hmk hPb hoc hd0 hd1 hd2 hd3 hle hz
  go_enter Tryz.func125, Tryz.ntmps125
  go_wp2_with fail
  refine (unhide HF1 _).mono ?_
  rintro ev wa ⟨rfl, rfl⟩
  go_wp2_with fail
  refine (unhide HF4 _).mono ?_
  rintro ev wb ⟨rfl, rfl⟩
  go_wp2_with fail
  refine (unhide HNW _).mono ?_
  rintro ev x0 ⟨rfl, hW, hBe, hSz⟩
  have hPG : Blk x0 w.heap.size #[.int .i64 kind, .int .i64 number, .string body] 135 := (Blk.new w _ _).below hBe (by simp)
  have HPG := hide hPG
  obtain ⟨B, hB⟩ : ∃ B, (w.alloc (Obj.cells #[.int .i64 kind, .int .i64 number, .string body] 135)).heap.size = B := ⟨_, rfl⟩
  have hB' : B = w.heap.size + 1 := by rw [← hB]; simp
  rw [hB] at hW hSz
  have HBe := hide (show Below w.heap.size w x0 from ((Below.refl _ w).alloc (Nat.le_refl _) _).trans (hBe.mono (by simp)))
  have HNF := hide (show ¬ Fp B (.slice none 0 0) w.heap.size by
    rintro (h | h)
    · omega
    · cases h)
  have hb0 : B ≤ x0.heap.size := by omega
  have hB1 : w.heap.size + 1 = B := by omega
  have HP0 := hide (WPost.refl hW)
  have HHB := hide hB
  have HHB' := hide hB'
  have HSz := hide hSz
  clear hW hBe hSz hPG HNW HF1 HF4 hB hB'
  have hbx0 := (unhide HP0).blk (unhide HPG) (unhide HNF)
  have p0x0 : x0.cell? ⟨w.heap.size, 0, none⟩ = some (.int .i64 kind) := by rw [hbx0.cell 0]; rfl
  have p1x0 : x0.cell? ⟨w.heap.size, 1, none⟩ = some (.int .i64 number) := by rw [hbx0.cell 1]; rfl
  have p2x0 : x0.cell? ⟨w.heap.size, 2, none⟩ = some (.string body) := by rw [hbx0.cell 2]; rfl
  clear hbx0
  go_wp2_with fail
  refine (rawK (unhide HP0) hb0 ⟨#[83, 66]⟩ (by decide)).mono ?_
  rintro ev x1 ⟨rfl, hP⟩
  rw [wl_good, List.nil_append, show nums ⟨#[83, 66]⟩ = [83, 66] from rfl] at hP
  have HP1 := hide hP
  clear hP HP0 p0x0 p1x0 p2x0
  have hbx1 := (unhide HP1).blk (unhide HPG) (unhide HNF)
  have p0x1 : x1.cell? ⟨w.heap.size, 0, none⟩ = some (.int .i64 kind) := by rw [hbx1.cell 0]; rfl
  have p1x1 : x1.cell? ⟨w.heap.size, 1, none⟩ = some (.int .i64 number) := by rw [hbx1.cell 1]; rfl
  have p2x1 : x1.cell? ⟨w.heap.size, 2, none⟩ = some (.string body) := by rw [hbx1.cell 2]; rfl
  clear hbx1
  go_wp2_with fail
  refine (numK (unhide HP1) hb0 1 [kind, (n : Int)] _ rfl (by simp) 2 rfl).mono ?_
  rintro ev x2 ⟨rfl, hP⟩
  rw [unhide HE1, wl_good, we_good] at hP
  have HP2 := hide hP
  clear hP HP1 p0x1 p1x1 p2x1
  have hbx2 := (unhide HP2).blk (unhide HPG) (unhide HNF)
  have p0x2 : x2.cell? ⟨w.heap.size, 0, none⟩ = some (.int .i64 kind) := by rw [hbx2.cell 0]; rfl
  have p1x2 : x2.cell? ⟨w.heap.size, 1, none⟩ = some (.int .i64 number) := by rw [hbx2.cell 1]; rfl
  have p2x2 : x2.cell? ⟨w.heap.size, 2, none⟩ = some (.string body) := by rw [hbx2.cell 2]; rfl
  clear hbx2
  go_wp2_with fail
  refine (numK (unhide HP2) hb0 4 [number] _ rfl (by simp [outN_len]) 1 rfl).mono ?_
  rintro ev x3 ⟨rfl, hP⟩
  rw [unhide HE4, wl_good, we_good] at hP
  have HP3 := hide hP
  clear hP HP2 p0x2 p1x2 p2x2
  have hbx3 := (unhide HP3).blk (unhide HPG) (unhide HNF)
  have p0x3 : x3.cell? ⟨w.heap.size, 0, none⟩ = some (.int .i64 kind) := by rw [hbx3.cell 0]; rfl
  have p1x3 : x3.cell? ⟨w.heap.size, 1, none⟩ = some (.int .i64 number) := by rw [hbx3.cell 1]; rfl
  have p2x3 : x3.cell? ⟨w.heap.size, 2, none⟩ = some (.string body) := by rw [hbx3.cell 2]; rfl
  clear hbx3
  go_wp2_with fail
  refine (rawK (unhide HP3) hb0 body (by simp [outN_len]; omega)).mono ?_
  rintro ev x4 ⟨rfl, hP⟩
  rw [wl_good] at hP
  have HP4 := hide hP
  clear hP HP3 p0x3 p1x3 p2x3
  have hbx4 := (unhide HP4).blk (unhide HPG) (unhide HNF)
  have p0x4 : x4.cell? ⟨w.heap.size, 0, none⟩ = some (.int .i64 kind) := by rw [hbx4.cell 0]; rfl
  have p1x4 : x4.cell? ⟨w.heap.size, 1, none⟩ = some (.int .i64 number) := by rw [hbx4.cell 1]; rfl
  have p2x4 : x4.cell? ⟨w.heap.size, 2, none⟩ = some (.string body) := by rw [hbx4.cell 2]; rfl
  clear hbx4
  go_wp2_with fail
  refine (unhide HR z _ hz244).mono ?_
  rintro ev x5 ⟨rfl, hB5⟩
  have HP5 := hide ((unhide HP4).below hB5)
  clear hB5 HP4 p0x4 p1x4 p2x4
  have hbx5 := (unhide HP5).blk (unhide HPG) (unhide HNF)
  have p0x5 : x5.cell? ⟨w.heap.size, 0, none⟩ = some (.int .i64 kind) := by rw [hbx5.cell 0]; rfl
  have p1x5 : x5.cell? ⟨w.heap.size, 1, none⟩ = some (.int .i64 number) := by rw [hbx5.cell 1]; rfl
  have p2x5 : x5.cell? ⟨w.heap.size, 2, none⟩ = some (.string body) := by rw [hbx5.cell 2]; rfl
  clear hbx5
  go_wp2_with fail
  refine (rawK (unhide HP5) hb0 (strOfNums (List.replicate z 0)) (by rw [← nums_len (strOfNums _), nums_strOfNums _ (zeros_byte z)]; simp [outN_len, nums_len]; omega)).mono ?_
  rintro ev x6 ⟨rfl, hP⟩
  rw [wl_good, nums_strOfNums _ (zeros_byte z), show Int.toNat 1 = 1 from rfl, show Int.toNat 4 = 4 from rfl, unhide HPE] at hP
  have HP6 := hide hP
  clear hP HP5 p0x5 p1x5 p2x5
  have hbx6 := (unhide HP6).blk (unhide HPG) (unhide HNF)
  have p0x6 : x6.cell? ⟨w.heap.size, 0, none⟩ = some (.int .i64 kind) := by rw [hbx6.cell 0]; rfl
  have p1x6 : x6.cell? ⟨w.heap.size, 1, none⟩ = some (.int .i64 number) := by rw [hbx6.cell 1]; rfl
  have p2x6 : x6.cell? ⟨w.heap.size, 2, none⟩ = some (.string body) := by rw [hbx6.cell 2]; rfl
  clear hbx6
  go_wp2_with fail
  refine (doneK (unhide HP6)).mono ?_
  rintro ev x7 ⟨rfl, hP⟩
  skip
  have HP7 := hide hP
  clear hP HP6 p0x6 p1x6 p2x6
  have hbx7 := (unhide HP7).blk (unhide HPG) (unhide HNF)
  have p0x7 : x7.cell? ⟨w.heap.size, 0, none⟩ = some (.int .i64 kind) := by rw [hbx7.cell 0]; rfl
  have p1x7 : x7.cell? ⟨w.heap.size, 1, none⟩ = some (.int .i64 number) := by rw [hbx7.cell 1]; rfl
  have p2x7 : x7.cell? ⟨w.heap.size, 2, none⟩ = some (.string body) := by rw [hbx7.cell 2]; rfl
  clear hbx7
  go_wp2_with fail
  refine (unhide HCK _).mono ?_
  rintro ev x8 ⟨rfl, rfl⟩
  have HP8 := HP7
  clear HP7
  go_wp2_with fail
  refine (numK (unhide HP8) hb0 1 [(d0 : Int), (d1 : Int), (d2 : Int), (d3 : Int)] _ rfl (by rw [unhide HPL]; simp) 4 rfl).mono ?_
  rintro ev x9 ⟨rfl, hP⟩
  rw [← unhide HLE, unhide HEC, wl_good, we_good, show Int.toNat 1 = 1 from rfl, unhide HOC] at hP
  have HP9 := hide hP
  clear hP HP8
  go_wp2_with fail
  refine (doneK (unhide HP9)).mono ?_
  rintro ev x10 ⟨rfl, hP⟩
  have HP10 := hide hP
  clear hP HP9
  go_wp2
  go_ret2
  refine ⟨rfl, ?_⟩
  obtain ⟨v1, h1, h2, h3⟩ := unhide HP10
  have hlow : Below w.heap.size x0 x10 := h2.below (by have := unhide HSz; have := unhide HHB'; omega) (fun k hk hf => by
    rcases hf with rfl | hf
    · have := unhide HHB'; omega
    · cases hf)
  exact (unhide HBe).trans hlow
end Go.Proofs.YtnkaooafenakdaaGreatDoor

namespace Go.Proofs.YtnkaooafenakdaaGreatDoor
open Go.RowKit
set_option maxRecDepth 100000 in
set_option maxHeartbeats 2000000 in
/-- MakePage of any page. -/
theorem make_any (hRep : RepOk) (kind number : Int) (body : ByteArray) (w : World) :
    Calls Tryz.prog 125 #[.agg #[.int .i64 kind, .int .i64 number, .string body]] w fun e w' => e = .returned (.tuple #[.string (makeB kind number body), .int .i64 (errM kind number body.size)]) ∧ Below w.heap.size w w' := by
  by_cases hk : fitsP kind 1
  · by_cases hn : fitsP number 4
    · by_cases hb : body.size ≤ 244
      · have hE : errM kind number body.size = 0 := by rw [errM, if_neg (by simp [hk, hn]), if_neg (by omega)]
        rw [makeB, if_pos hE, hE]
        exact make_ok hRep kind number body hk hn hb w
      · have hE : errM kind number body.size = 32 := by rw [errM, if_neg (by simp [hk, hn]), if_pos (by omega)]
        rw [makeB, if_neg (by rw [hE]; decide), hE]
        have HF1 := hide (fun W => fits_any kind 1 (by decide) W)
        rw [decide_eq_true hk] at HF1
        have HF4 := hide (fun W => fits_any number 4 (by decide) W)
        rw [decide_eq_true hn] at HF4
        have hb' : 244 < body.size := by omega
        clear hk hn hRep hE
        go_enter Tryz.func125, Tryz.ntmps125
        go_wp2_with fail
        refine (unhide HF1 _).mono ?_
        rintro ev wa ⟨rfl, rfl⟩
        go_wp2_with fail
        refine (unhide HF4 _).mono ?_
        rintro ev wb ⟨rfl, rfl⟩
        go_wp2
        go_ret2
        exact ⟨rfl, (Below.refl _ w).alloc (Nat.le_refl _) _⟩
    · have hE : errM kind number body.size = 1 := by rw [errM, if_pos (.inr hn)]
      rw [makeB, if_neg (by rw [hE]; decide), hE]
      have HF1 := hide (fun W => fits_any kind 1 (by decide) W)
      rw [decide_eq_true hk] at HF1
      have HF4 := hide (fun W => fits_any number 4 (by decide) W)
      rw [decide_eq_false hn] at HF4
      clear hk hn hRep hE
      go_enter Tryz.func125, Tryz.ntmps125
      go_wp2_with fail
      refine (unhide HF1 _).mono ?_
      rintro ev wa ⟨rfl, rfl⟩
      go_wp2_with fail
      refine (unhide HF4 _).mono ?_
      rintro ev wb ⟨rfl, rfl⟩
      go_wp2
      go_ret2
      exact ⟨rfl, (Below.refl _ w).alloc (Nat.le_refl _) _⟩
  · have hE : errM kind number body.size = 1 := by rw [errM, if_pos (.inl hk)]
    rw [makeB, if_neg (by rw [hE]; decide), hE]
    have HF1 := hide (fun W => fits_any kind 1 (by decide) W)
    rw [decide_eq_false hk] at HF1
    clear hk hRep hE
    go_enter Tryz.func125, Tryz.ntmps125
    go_wp2_with fail
    refine (unhide HF1 _).mono ?_
    rintro ev wa ⟨rfl, rfl⟩
    go_wp2
    go_ret2
    exact ⟨rfl, (Below.refl _ w).alloc (Nat.le_refl _) _⟩
end Go.Proofs.YtnkaooafenakdaaGreatDoor

namespace Go.Proofs.YtnkaooafenakdaaGreatDoor
open Go.RowKit
theorem rep_zero (c : Nat) : (⟨(Lib.repeatL (ByteArray.mk #[0]).data.toList c).toArray⟩ : ByteArray) = strOfNums (List.replicate c 0) := by
  have h : Lib.repeatL (ByteArray.mk #[0]).data.toList c = List.replicate c 0 := by
    have := Lib.repeatL_replicate 0 1 c
    rw [Nat.mul_one] at this
    exact this
  rw [h, strOfNums]
  simp
theorem rep_ok : RepOk := by
  intro c W hc
  have h := Tryz.strings_Repeat ⟨#[0]⟩ c W (by omega) (by show 1 * c ≤ _; omega)
  rw [rep_zero] at h
  exact h
end Go.Proofs.YtnkaooafenakdaaGreatDoor
