import Derived.Test.YtiellebdliifdaaGreatDoorMt03
import Derived.Test.YtiellebdliifdaaGreatDoorMt00
namespace Go.Proofs.YtiellebdliifdaaGreatDoor
open Go.RowKit
def RepOk : Prop := ∀ (c : Nat) (W : World), c ≤ 244 → Calls Tryz.prog 57 #[.string ⟨#[0]⟩, .int .i64 (c : Int)] W fun e w' => e = .returned (.string (strOfNums (List.replicate c 0))) ∧ Below W.heap.size W w'
set_option maxRecDepth 100000 in
set_option maxHeartbeats 4000000 in
theorem make_ok (hRep : RepOk) (kind number : Int) (body : ByteArray) (hk : fitsP kind 1) (hn : fitsP number 4) (hbd : body.size ≤ 244) (w : World) :
  Calls Tryz.prog 99 #[.agg #[.int .i64 kind, .int .i64 number, .string body]] w fun e w' => e = .returned (.tuple #[.string (strOfNums (makeL kind number (nums body))), .int .i64 0]) ∧ Below w.heap.size w w' := by
 have HF1 := hide (fun W => fits_any kind 1 (by decide) W)
 rw [decide_eq_true hk] at HF1
 have HF4 := hide (fun W => fits_any number 4 (by decide) W)
 rw [decide_eq_true hn] at HF4
 have HNW := hide (fun W => newWriter_any W)
 have HR := hide hRep
 obtain ⟨n, hnB⟩ : ∃ n, body.size = n := ⟨_, rfl⟩
 have HE1 := hide (show errN 1 [kind, (n : Int)] = 0 by
  rw [errN, if_neg (by omega), if_pos]
  intro x hx
  simp at hx
  rcases hx with rfl | rfl
  ·exact hk
  ·exact (fits1 _).2 ⟨by omega, by omega⟩)
 have HE4 := hide (show errN 4 [number] = 0 by
  rw [errN, if_neg (by omega), if_pos]
  intro x hx
  simp at hx
  rw [hx]
  exact hn)
 obtain ⟨P, hP⟩ : ∃ P, pageL kind number (nums body) = P := ⟨_, rfl⟩
 have hPl : P.length = 252 := by rw [← hP]; exact pageL_len _ _ _ (by rw [nums_len]; exact hbd)
 have hPeq : [83, 66] ++ outN 1 [kind, (n : Int)] ++ outN 4 [number] ++ nums body ++ List.replicate (244 - n) 0 = P := by
  rw [← hP, pageL, nums_len, hnB]
  simp [outN]
 obtain ⟨c, hc⟩ : ∃ c, chkN P = c := ⟨_, rfl⟩
 have hcl : c ≤ 4294967295 := by rw [← hc]; exact chkN_lt _
 have hmk : makeL kind number (nums body) = P ++ le4 c := by rw [makeL, hP, hc]
 have hPb : Bytes P := by rw [← hP]; exact pageL_bytes _ _ _ (nums_bytes _)
 have HEC := hide (show errN 1 (le4 c) = 0 by
  rw [errN, if_neg (by omega), if_pos]
  intro x hx
  have := (le4_bytes c hcl).mem hx
  exact (fits1 _).2 ⟨by omega, by omega⟩)
 have hoc : outN 1 (le4 c) = le4 c := by
  have h1 : ∀ l : List Int, Bytes l → outN 1 l = l := by
   intro l
   induction l with
   | nil => intro _; rfl
   | cons x l ih =>
    intro hb
    have hx := hb.mem (List.mem_cons_self)
    have e1 : outN 1 (x :: l) = numB x 1 ++ outN 1 l := by simp [outN]
    rw [e1, numB1 x hx.1 (by omega), ih (Bytes.of_mem (fun y hy => hb.mem (List.mem_cons_of_mem _ hy)))]
    rfl
  exact h1 _ (le4_bytes c hcl)
 rw [hmk]
 have HCK := hide (fun W => check_g (strOfNums P) c (by rw [nums_strOfNums P hPb, hc]) (by
  have : (strOfNums P).size = P.length := by rw [← nums_len, nums_strOfNums P hPb]
  omega) W)
 have a0 := i64_and255 c (by omega)
 have a1 : bits .and .i64 ((c : Int) / 256) 255 = ((c / 256 % 256 : Nat) : Int) := by have := i64_and255 (c / 256) (by omega); rwa [show ((c / 256 : Nat) : Int) = (c : Int) / 256 by omega] at this
 have a2 : bits .and .i64 ((c : Int) / 65536) 255 = ((c / 65536 % 256 : Nat) : Int) := by have := i64_and255 (c / 65536) (by omega); rwa [show ((c / 65536 : Nat) : Int) = (c : Int) / 65536 by omega] at this
 obtain ⟨d0, hd0⟩ : ∃ d, c % 256 = d := ⟨_, rfl⟩
 obtain ⟨d1, hd1⟩ : ∃ d, c / 256 % 256 = d := ⟨_, rfl⟩
 obtain ⟨d2, hd2⟩ : ∃ d, c / 65536 % 256 = d := ⟨_, rfl⟩
 obtain ⟨d3, hd3⟩ : ∃ d, c / 16777216 = d := ⟨_, rfl⟩
 have hle : le4 c = [(d0 : Int), (d1 : Int), (d2 : Int), (d3 : Int)] := by rw [le4, hd0, hd1, hd2, hd3]
 rw [hd0] at a0
 rw [hd1] at a1
 rw [hd2] at a2
 have s3 : (c : Int) / 16777216 = (d3 : Int) := by omega
 have hsub : (244 : Int) - (n : Int) = ((244 - n : Nat) : Int) := by omega
 obtain ⟨z, hz⟩ : ∃ z, 244 - n = z := ⟨_, rfl⟩
 rw [hz] at hsub hPeq
 have HPE := hide hPeq
 have HLE := hide hle
 have HOC := hide hoc
 have HPL := hide hPl
 have hz244 : z ≤ 244 := by omega
 clear hk hn hRep hP hPl hPeq hc hmk hPb hoc hd0 hd1 hd2 hd3 hle hz
 go_enter Tryz.func99, Tryz.ntmps99
 go_wp2_with fail
 refine (unhide HF1 _).mono ?_
 rintro ev wa ⟨rfl, rfl⟩
 go_wp2_with fail
 refine (unhide HF4 _).mono ?_
 rintro ev wb ⟨rfl, rfl⟩
 go_wp2_with fail
 refine (unhide HNW _).mono ?_
 rintro ev x0 ⟨rfl, hW, hBe, hSz⟩
 have hPG : Blk x0 w.heap.size #[.int .i64 kind, .int .i64 number, .string body] 95 := (Blk.new w _ _).below hBe (by simp)
 have HPG := hide hPG
 obtain ⟨B, hB⟩ : ∃ B, (w.alloc (Obj.cells #[.int .i64 kind, .int .i64 number, .string body] 95)).heap.size = B := ⟨_, rfl⟩
 have hB' : B = w.heap.size + 1 := by rw [← hB]; simp
 rw [hB] at hW hSz
 have HBe := hide (show Below w.heap.size w x0 from ((Below.refl _ w).alloc (Nat.le_refl _) _).trans (hBe.mono (by simp)))
 have HNF := hide (show ¬ Fp B (.slice none 0 0) w.heap.size by
  rintro (h | h)
  ·omega
  ·cases h)
 have hb0 : B ≤ x0.heap.size := by omega
 have hB1 : w.heap.size + 1 = B := by omega
 have HP0 := hide (WPost.refl hW)
 have HHB := hide hB
 have HHB' := hide hB'
 have HSz := hide hSz
 clear hW hBe hSz hPG HNW HF1 HF4 hB hB'
 have hbx0 := (unhide HP0).blk (unhide HPG) (unhide HNF)
 have p0x0 : x0.cell? ⟨w.heap.size, 0, none⟩ = some (.int .i64 kind) := by rw [hbx0.cell 0]; rfl
 have p1x0 : x0.cell? ⟨w.heap.size, 1, none⟩ = some (.int .i64 number) := by rw [hbx0.cell 1]; rfl
 have p2x0 : x0.cell? ⟨w.heap.size, 2, none⟩ = some (.string body) := by rw [hbx0.cell 2]; rfl
 clear hbx0
 go_wp2_with fail
 refine (rawK (unhide HP0) hb0 ⟨#[83, 66]⟩ (by decide)).mono ?_
 rintro ev x1 ⟨rfl, hP⟩
 rw [wl_good, List.nil_append, show nums ⟨#[83, 66]⟩ = [83, 66] from rfl] at hP
 have HP1 := hide hP
 clear hP HP0 p0x0 p1x0 p2x0
 have hbx1 := (unhide HP1).blk (unhide HPG) (unhide HNF)
 have p0x1 : x1.cell? ⟨w.heap.size, 0, none⟩ = some (.int .i64 kind) := by rw [hbx1.cell 0]; rfl
 have p1x1 : x1.cell? ⟨w.heap.size, 1, none⟩ = some (.int .i64 number) := by rw [hbx1.cell 1]; rfl
 have p2x1 : x1.cell? ⟨w.heap.size, 2, none⟩ = some (.string body) := by rw [hbx1.cell 2]; rfl
 clear hbx1
 go_wp2_with fail
 refine (numK (unhide HP1) hb0 1 [kind, (n : Int)] _ rfl (by simp) 2 rfl).mono ?_
 rintro ev x2 ⟨rfl, hP⟩
 rw [unhide HE1, wl_good, we_good] at hP
 have HP2 := hide hP
 clear hP HP1 p0x1 p1x1 p2x1
 have hbx2 := (unhide HP2).blk (unhide HPG) (unhide HNF)
 have p0x2 : x2.cell? ⟨w.heap.size, 0, none⟩ = some (.int .i64 kind) := by rw [hbx2.cell 0]; rfl
 have p1x2 : x2.cell? ⟨w.heap.size, 1, none⟩ = some (.int .i64 number) := by rw [hbx2.cell 1]; rfl
 have p2x2 : x2.cell? ⟨w.heap.size, 2, none⟩ = some (.string body) := by rw [hbx2.cell 2]; rfl
 clear hbx2
 go_wp2_with fail
 refine (numK (unhide HP2) hb0 4 [number] _ rfl (by simp [outN_len]) 1 rfl).mono ?_
 rintro ev x3 ⟨rfl, hP⟩
 rw [unhide HE4, wl_good, we_good] at hP
 have HP3 := hide hP
 clear hP HP2 p0x2 p1x2 p2x2
 have hbx3 := (unhide HP3).blk (unhide HPG) (unhide HNF)
 have p0x3 : x3.cell? ⟨w.heap.size, 0, none⟩ = some (.int .i64 kind) := by rw [hbx3.cell 0]; rfl
 have p1x3 : x3.cell? ⟨w.heap.size, 1, none⟩ = some (.int .i64 number) := by rw [hbx3.cell 1]; rfl
 have p2x3 : x3.cell? ⟨w.heap.size, 2, none⟩ = some (.string body) := by rw [hbx3.cell 2]; rfl
 clear hbx3
 go_wp2_with fail
 refine (rawK (unhide HP3) hb0 body (by simp [outN_len]; omega)).mono ?_
 rintro ev x4 ⟨rfl, hP⟩
 rw [wl_good] at hP
 have HP4 := hide hP
 clear hP HP3 p0x3 p1x3 p2x3
 have hbx4 := (unhide HP4).blk (unhide HPG) (unhide HNF)
 have p0x4 : x4.cell? ⟨w.heap.size, 0, none⟩ = some (.int .i64 kind) := by rw [hbx4.cell 0]; rfl
 have p1x4 : x4.cell? ⟨w.heap.size, 1, none⟩ = some (.int .i64 number) := by rw [hbx4.cell 1]; rfl
 have p2x4 : x4.cell? ⟨w.heap.size, 2, none⟩ = some (.string body) := by rw [hbx4.cell 2]; rfl
 clear hbx4
 go_wp2_with fail
 refine (unhide HR z _ hz244).mono ?_
 rintro ev x5 ⟨rfl, hB5⟩
 have HP5 := hide ((unhide HP4).below hB5)
 clear hB5 HP4 p0x4 p1x4 p2x4
 have hbx5 := (unhide HP5).blk (unhide HPG) (unhide HNF)
 have p0x5 : x5.cell? ⟨w.heap.size, 0, none⟩ = some (.int .i64 kind) := by rw [hbx5.cell 0]; rfl
 have p1x5 : x5.cell? ⟨w.heap.size, 1, none⟩ = some (.int .i64 number) := by rw [hbx5.cell 1]; rfl
 have p2x5 : x5.cell? ⟨w.heap.size, 2, none⟩ = some (.string body) := by rw [hbx5.cell 2]; rfl
 clear hbx5
 go_wp2_with fail
 refine (rawK (unhide HP5) hb0 (strOfNums (List.replicate z 0)) (by rw [← nums_len (strOfNums _), nums_strOfNums _ (zeros_byte z)]; simp [outN_len, nums_len]; omega)).mono ?_
 rintro ev x6 ⟨rfl, hP⟩
 rw [wl_good, nums_strOfNums _ (zeros_byte z), show Int.toNat 1 = 1 from rfl, show Int.toNat 4 = 4 from rfl, unhide HPE] at hP
 have HP6 := hide hP
 clear hP HP5 p0x5 p1x5 p2x5
 have hbx6 := (unhide HP6).blk (unhide HPG) (unhide HNF)
 have p0x6 : x6.cell? ⟨w.heap.size, 0, none⟩ = some (.int .i64 kind) := by rw [hbx6.cell 0]; rfl
 have p1x6 : x6.cell? ⟨w.heap.size, 1, none⟩ = some (.int .i64 number) := by rw [hbx6.cell 1]; rfl
 have p2x6 : x6.cell? ⟨w.heap.size, 2, none⟩ = some (.string body) := by rw [hbx6.cell 2]; rfl
 clear hbx6
 go_wp2_with fail
 refine (doneK (unhide HP6)).mono ?_
 rintro ev x7 ⟨rfl, hP⟩
 skip
 have HP7 := hide hP
 clear hP HP6 p0x6 p1x6 p2x6
 have hbx7 := (unhide HP7).blk (unhide HPG) (unhide HNF)
 have p0x7 : x7.cell? ⟨w.heap.size, 0, none⟩ = some (.int .i64 kind) := by rw [hbx7.cell 0]; rfl
 have p1x7 : x7.cell? ⟨w.heap.size, 1, none⟩ = some (.int .i64 number) := by rw [hbx7.cell 1]; rfl
 have p2x7 : x7.cell? ⟨w.heap.size, 2, none⟩ = some (.string body) := by rw [hbx7.cell 2]; rfl
 clear hbx7
 go_wp2_with fail
 refine (unhide HCK _).mono ?_
 rintro ev x8 ⟨rfl, rfl⟩
 have HP8 := HP7
 clear HP7
 go_wp2_with fail
 refine (numK (unhide HP8) hb0 1 [(d0 : Int), (d1 : Int), (d2 : Int), (d3 : Int)] _ rfl (by rw [unhide HPL]; simp) 4 rfl).mono ?_
 rintro ev x9 ⟨rfl, hP⟩
 rw [← unhide HLE, unhide HEC, wl_good, we_good, show Int.toNat 1 = 1 from rfl, unhide HOC] at hP
 have HP9 := hide hP
 clear hP HP8
 go_wp2_with fail
 refine (doneK (unhide HP9)).mono ?_
 rintro ev x10 ⟨rfl, hP⟩
 have HP10 := hide hP
 clear hP HP9
 go_wp2
 go_ret2
 refine ⟨rfl, ?_⟩
 obtain ⟨v1, h1, h2, h3⟩ := unhide HP10
 have hlow : Below w.heap.size x0 x10 := h2.below (by have := unhide HSz; have := unhide HHB'; omega) (fun k hk hf => by
  rcases hf with rfl | hf
  ·have := unhide HHB'; omega
  ·cases hf)
 exact (unhide HBe).trans hlow
end Go.Proofs.YtiellebdliifdaaGreatDoor
namespace Go.Proofs.YtiellebdliifdaaGreatDoor
open Go.RowKit
set_option maxRecDepth 100000 in
set_option maxHeartbeats 2000000 in
theorem make_any (hRep : RepOk) (kind number : Int) (body : ByteArray) (w : World) :
  Calls Tryz.prog 99 #[.agg #[.int .i64 kind, .int .i64 number, .string body]] w fun e w' => e = .returned (.tuple #[.string (makeB kind number body), .int .i64 (errM kind number body.size)]) ∧ Below w.heap.size w w' := by
 by_cases hk : fitsP kind 1
 ·by_cases hn : fitsP number 4
  ·by_cases hb : body.size ≤ 244
   ·have hE : errM kind number body.size = 0 := by rw [errM, if_neg (by simp [hk, hn]), if_neg (by omega)]
    rw [makeB, if_pos hE, hE]
    exact make_ok hRep kind number body hk hn hb w
   ·have hE : errM kind number body.size = 32 := by rw [errM, if_neg (by simp [hk, hn]), if_pos (by omega)]
    rw [makeB, if_neg (by rw [hE]; decide), hE]
    have HF1 := hide (fun W => fits_any kind 1 (by decide) W)
    rw [decide_eq_true hk] at HF1
    have HF4 := hide (fun W => fits_any number 4 (by decide) W)
    rw [decide_eq_true hn] at HF4
    have hb' : 244 < body.size := by omega
    clear hk hn hRep hE
    go_enter Tryz.func99, Tryz.ntmps99
    go_wp2_with fail
    refine (unhide HF1 _).mono ?_
    rintro ev wa ⟨rfl, rfl⟩
    go_wp2_with fail
    refine (unhide HF4 _).mono ?_
    rintro ev wb ⟨rfl, rfl⟩
    go_wp2
    go_ret2
    exact ⟨rfl, (Below.refl _ w).alloc (Nat.le_refl _) _⟩
  ·have hE : errM kind number body.size = 1 := by rw [errM, if_pos (.inr hn)]
   rw [makeB, if_neg (by rw [hE]; decide), hE]
   have HF1 := hide (fun W => fits_any kind 1 (by decide) W)
   rw [decide_eq_true hk] at HF1
   have HF4 := hide (fun W => fits_any number 4 (by decide) W)
   rw [decide_eq_false hn] at HF4
   clear hk hn hRep hE
   go_enter Tryz.func99, Tryz.ntmps99
   go_wp2_with fail
   refine (unhide HF1 _).mono ?_
   rintro ev wa ⟨rfl, rfl⟩
   go_wp2_with fail
   refine (unhide HF4 _).mono ?_
   rintro ev wb ⟨rfl, rfl⟩
   go_wp2
   go_ret2
   exact ⟨rfl, (Below.refl _ w).alloc (Nat.le_refl _) _⟩
 ·have hE : errM kind number body.size = 1 := by rw [errM, if_pos (.inl hk)]
  rw [makeB, if_neg (by rw [hE]; decide), hE]
  have HF1 := hide (fun W => fits_any kind 1 (by decide) W)
  rw [decide_eq_false hk] at HF1
  clear hk hRep hE
  go_enter Tryz.func99, Tryz.ntmps99
  go_wp2_with fail
  refine (unhide HF1 _).mono ?_
  rintro ev wa ⟨rfl, rfl⟩
  go_wp2
  go_ret2
  exact ⟨rfl, (Below.refl _ w).alloc (Nat.le_refl _) _⟩
end Go.Proofs.YtiellebdliifdaaGreatDoor
namespace Go.Proofs.YtiellebdliifdaaGreatDoor
open Go.RowKit
def ps1 (s : ByteArray) : RSt := stepR ⟨s, 0, 0⟩ (rawE 2 s) 2
def pkd (s : ByteArray) : Int := if (ps1 s).e = 0 then numV 1 (ps1 s).r else 0
def ps2 (s : ByteArray) : RSt := stepR (ps1 s) (numE 1 (ps1 s).r) 1
def pln (s : ByteArray) : Int := if (ps2 s).e = 0 then numV 1 (ps2 s).r else 0
def ps3 (s : ByteArray) : RSt := stepR (ps2 s) (numE 1 (ps2 s).r) 1
def pnm (s : ByteArray) : Int := if (ps3 s).e = 0 then numV 4 (ps3 s).r else 0
def ps4 (s : ByteArray) : RSt := stepR (ps3 s) (numE 4 (ps3 s).r) 4
def pbd (s : ByteArray) : ByteArray := if (ps4 s).e = 0 then rawV (pln s) (ps4 s).r else ⟨#[]⟩
def prOk (s : ByteArray) : Prop := errM (pkd s) (pnm s) (pbd s).size = 0 ∧ makeB (pkd s) (pnm s) (pbd s) = s
def ParsePost (s : ByteArray) (w : World) (e : Ending) (w' : World) : Prop :=
 ((prOk s ∧ e = .returned (.tuple #[.agg #[.int .i64 (pkd s), .int .i64 (pnm s), .string (pbd s)], .int .i64 0])) ∨ (¬ prOk s ∧ e = .returned (.tuple #[.agg #[.int .i64 0, .int .i64 0, .string ⟨#[]⟩], .int .i64 35]))) ∧ Below w.heap.size w w'
theorem ps_ok (s : ByteArray) (N : Nat) (h : s.size ≤ N) : (ps1 s).ok N ∧ (ps2 s).ok N ∧ (ps3 s).ok N ∧ (ps4 s).ok N := by
 have h0 : RSt.ok ⟨s, 0, 0⟩ N := ⟨Int.le_refl _, by simp; omega⟩
 have h1 : (ps1 s).ok N := stepR_ok _ _ _ _ h0 (fun e => (rawE_le 2 s e).1)
 have h2 : (ps2 s).ok N := stepR_ok _ _ _ _ h1 (fun e => (numE_le 1 _ e).1)
 have h3 : (ps3 s).ok N := stepR_ok _ _ _ _ h2 (fun e => (numE_le 1 _ e).1)
 exact ⟨h1, h2, h3, stepR_ok _ _ _ _ h3 (fun e => (numE_le 4 _ e).1)⟩
theorem results_pair {fn : Func} {p q : Tmp} {ty : TypeId} (h : fn.results = #[.cell p ty, .tmp q]) (tmps : Array Value) (P : Program) (w : World) (ad : Addr) (ha : tmps.getD p undef = .pointer (some ad)) (v : Value) (hl : (loadVar ty ad).run P w = .ok v w) (u : Value) (hu : tmps.getD q undef = u) :
  (results fn tmps).run P w = .ok (.tuple #[v, u]) w := by
 subst hu
 have ha' : tmps[p]?.getD undef = .pointer (some ad) := by simpa using ha
 simp only [results, h]
 simp [ha', asAddr, hl]
theorem load_page (w : World) (b : Nat) (kind number : Int) (body : ByteArray) (h : Blk w b #[.int .i64 kind, .int .i64 number, .string body] 95) :
  (loadVar 95 ⟨b, 0, none⟩).run Tryz.prog w = .ok (.agg #[.int .i64 kind, .int .i64 number, .string body]) w := by
 have c0 : w.cell? ⟨b, 0, none⟩ = some (.int .i64 kind) := by rw [h.cell 0]; rfl
 have c1 : w.cell? ⟨b, 1, none⟩ = some (.int .i64 number) := by rw [h.cell 1]; rfl
 have c2 : w.cell? ⟨b, 2, none⟩ = some (.string body) := by rw [h.cell 2]; rfl
 simp [loadVar, isAgg, underlying, Tryz.underlying95, Result.andThen, loadCells, loadCellsFrom, Addr.add, c0, c1, c2]
set_option maxRecDepth 100000 in
set_option maxHeartbeats 4000000 in
theorem parse_any (hRep : RepOk) (s : ByteArray) (hs : s.size ≤ 9223372036854775807) (w : World) (hg : ETy w) :
  Calls Tryz.prog 143 #[.string s] w fun e w' => ParsePost s w e w' := by
 have HK := hide (ps_ok s 9223372036854775807 hs)
 have HMK := hide (fun W => make_any hRep (pkd s) (pnm s) (pbd s) W)
 have HNR := hide (fun W => newReader_any s W)
 have HG := hide hg
 clear hRep hg
 go_enter Tryz.func143, Tryz.ntmps143
 go_wp2_with fail
 refine (unhide HNR _).mono ?_
 rintro ev x0 ⟨rfl, hR0, hB0, hS0⟩
 obtain ⟨b, hb⟩ : ∃ b, (w.alloc (Obj.cells #[.int .i64 0, .int .i64 0, .string ⟨#[]⟩] 95)).heap.size = b := ⟨_, rfl⟩
 have hb' : b = w.heap.size + 1 := by rw [← hb]; simp
 rw [hb] at hR0 hS0
 have HA := hide (show Blk x0 w.heap.size #[.int .i64 0, .int .i64 0, .string ⟨#[]⟩] 95 from (Blk.new w _ _).below hB0 (by simp))
 have hBx : Below w.heap.size w x0 := ((Below.refl _ w).alloc (Nat.le_refl _) _).trans (hB0.mono (by simp))
 have hG0 : ETy x0 := (unhide HG).below hBx (unhide HG).lt
 have HBx := hide hBx
 have HG0 := hide hG0
 have hne0 : b ≠ 1 := by have := (unhide HG).lt; omega
 have hb1 : w.heap.size + 1 = b := by omega
 have HR0 := hide (show Rds x0 b ⟨s, 0, 0⟩ from hR0)
 have HO0 := hide (Only.refl (fun k => k = b) x0)
 have Hb := hide hb
 have Hb' := hide hb'
 have HS0 := hide hS0
 clear hR0 hB0 hS0 hBx hG0 HNR hb hb'
 go_wp2_with fail
 refine (rawS x0 b ⟨s, 0, 0⟩ (unhide HR0) ((unhide HG0).only (unhide HO0) (fun q => hne0 q.symm)) ⟨Int.le_refl _, by simp; omega⟩ 2).mono ?_
 rintro ev x1 ⟨rfl, hR, hO⟩
 have HR1 := hide (show Rds x1 b (ps1 s) from hR)
 have HO1 := hide ((unhide HO0).trans hO (fun _ _ q => q))
 clear hR hO HR0 HO0
 go_wp2_with fail
 refine (numS x1 b (ps1 s) (unhide HR1) ((unhide HG0).only (unhide HO1) (fun q => hne0 q.symm)) (unhide HK).1 1).mono ?_
 rintro ev x2 ⟨rfl, hR, hO⟩
 have HR2 := hide (show Rds x2 b (ps2 s) from hR)
 have HO2 := hide ((unhide HO1).trans hO (fun _ _ q => q))
 clear hR hO HR1 HO1
 obtain ⟨kd, hkd⟩ : ∃ k, (if (ps1 s).e = 0 then numV 1 (ps1 s).r else 0) = k := ⟨_, rfl⟩
 rw [hkd]
 have Hkd := hide hkd
 clear hkd
 go_wp2_with fail
 refine (numS x2 b (ps2 s) (unhide HR2) ((unhide HG0).only (unhide HO2) (fun q => hne0 q.symm)) (unhide HK).2.1 1).mono ?_
 rintro ev x3 ⟨rfl, hR, hO⟩
 have HR3 := hide (show Rds x3 b (ps3 s) from hR)
 have HO3 := hide ((unhide HO2).trans hO (fun _ _ q => q))
 clear hR hO HR2 HO2
 obtain ⟨ln, hln⟩ : ∃ k, (if (ps2 s).e = 0 then numV 1 (ps2 s).r else 0) = k := ⟨_, rfl⟩
 rw [hln]
 have Hln := hide hln
 clear hln
 go_wp2_with fail
 refine (numS x3 b (ps3 s) (unhide HR3) ((unhide HG0).only (unhide HO3) (fun q => hne0 q.symm)) (unhide HK).2.2.1 4).mono ?_
 rintro ev x4 ⟨rfl, hR, hO⟩
 have HR4 := hide (show Rds x4 b (ps4 s) from hR)
 have HO4 := hide ((unhide HO3).trans hO (fun _ _ q => q))
 clear hR hO HR3 HO3
 obtain ⟨nm, hnm⟩ : ∃ k, (if (ps3 s).e = 0 then numV 4 (ps3 s).r else 0) = k := ⟨_, rfl⟩
 rw [hnm]
 have Hnm := hide hnm
 clear hnm
 go_wp2_with fail
 refine (rawS x4 b (ps4 s) (unhide HR4) ((unhide HG0).only (unhide HO4) (fun q => hne0 q.symm)) (unhide HK).2.2.2 ln).mono ?_
 rintro ev x5 ⟨rfl, hR, hO⟩
 have HR5 := hide (show Rds x5 b (stepR (ps4 s) (rawE ln (ps4 s).r) ln.toNat) from hR)
 have HO5 := hide ((unhide HO4).trans hO (fun _ _ q => q))
 clear hR hO HR4 HO4
 obtain ⟨bd, hbd⟩ : ∃ k, (if (ps4 s).e = 0 then rawV ln (ps4 s).r else ⟨#[]⟩) = k := ⟨_, rfl⟩
 rw [hbd]
 have hk1 : pkd s = kd := unhide Hkd
 have hl1 : pln s = ln := unhide Hln
 have hn1 : pnm s = nm := unhide Hnm
 have hb1' : pbd s = bd := by rw [← hbd, ← hl1]; rfl
 rw [hk1, hn1, hb1'] at HMK
 have HPK := hide (And.intro hk1 (And.intro hn1 hb1'))
 obtain ⟨mb, hmb⟩ : ∃ m, makeB kd nm bd = m := ⟨_, rfl⟩
 obtain ⟨me, hme⟩ : ∃ m, errM kd nm bd.size = m := ⟨_, rfl⟩
 rw [hmb, hme] at HMK
 have Hmb := hide hmb
 have Hme := hide hme
 clear hbd hk1 hl1 hn1 hb1' hmb hme Hkd Hln Hnm HK HR5
 have hwA : w.heap.size < x5.heap.size := by have := (unhide HO5).size; have := unhide HS0; have := unhide Hb'; omega
 have HA5 := hide ((unhide HA).only (unhide HO5) (by show ¬ w.heap.size = b; omega))
 clear HA
 go_wp2_with fail
 refine (unhide HMK _).mono ?_
 rintro ev x6 ⟨rfl, hB6⟩
 have HB6 := hide hB6
 have HA6 := hide (((unhide HA5).alloc (Obj.cells #[.int .i64 kd, .int .i64 nm, .string bd] 95)).below hB6 (by simp; omega))
 have HC6 := hide ((Blk.new x5 95 #[.int .i64 kd, .int .i64 nm, .string bd]).below hB6 (by simp))
 have a0 : x6.cell? ⟨w.heap.size, 0, none⟩ = some (.int .i64 0) := by rw [(unhide HA6).cell 0]; rfl
 have a1 : x6.cell? ⟨w.heap.size, 1, none⟩ = some (.int .i64 0) := by rw [(unhide HA6).cell 1]; rfl
 have a2 : x6.cell? ⟨w.heap.size, 2, none⟩ = some (.string ⟨#[]⟩) := by rw [(unhide HA6).cell 2]; rfl
 have f0 := (unhide HA6).frozen 0
 have f1 := (unhide HA6).frozen 1
 have f2 := (unhide HA6).frozen 2
 have d0 : x6.cell? ⟨x5.heap.size, 0, none⟩ = some (.int .i64 kd) := by rw [(unhide HC6).cell 0]; rfl
 have d1 : x6.cell? ⟨x5.heap.size, 1, none⟩ = some (.int .i64 nm) := by rw [(unhide HC6).cell 1]; rfl
 have d2 : x6.cell? ⟨x5.heap.size, 2, none⟩ = some (.string bd) := by rw [(unhide HC6).cell 2]; rfl
 have HB7 := hide (show Below w.heap.size w x6 from (unhide HBx).trans (((unhide HO5).below (B := w.heap.size) (by have := unhide HS0; have := unhide Hb'; omega) (fun k hk => by show ¬ k = b; have := unhide Hb'; omega)).trans (((Below.refl _ x5).alloc (by omega) _).trans (hB6.mono (by simp; omega)))))
 clear hB6 HMK HBx HO5 HA5 HB6
 by_cases hok : me = 0 ∧ mb = s
 ·obtain ⟨h1, h2⟩ := hok
  subst h1
  have HOK := hide (show prOk s from ⟨by rw [(unhide HPK).1, (unhide HPK).2.1, (unhide HPK).2.2]; exact unhide Hme, by rw [(unhide HPK).1, (unhide HPK).2.1, (unhide HPK).2.2, unhide Hmb]; exact h2⟩)
  have hq : (mb.toList == s.toList) = true := by rw [h2]; simp
  have H2 := hide h2
  clear h2
  go_wp2
  have hA7 := (((unhide HA6).set 0 (.int .i64 kd)).set 1 (.int .i64 nm)).set 2 (.string bd)
  refine bodyPost_ret (v := .tuple #[.agg #[.int .i64 kd, .int .i64 nm, .string bd], .int .i64 0]) ?_ rfl ?_
  ·exact results_pair (p := 2) (q := 3) (ty := 95) rfl _ _ _ ⟨w.heap.size, 0, none⟩ (by rfl) _ (load_page _ _ _ _ _ hA7) _ (by rfl)
  ·refine ⟨.inl ⟨unhide HOK, ?_⟩, (((unhide HB7).setCell (p := ⟨w.heap.size, 0, none⟩) (Nat.le_refl _) _).setCell (p := ⟨w.heap.size, 1, none⟩) (Nat.le_refl _) _).setCell (p := ⟨w.heap.size, 2, none⟩) (Nat.le_refl _) _⟩
   rw [(unhide HPK).1, (unhide HPK).2.1, (unhide HPK).2.2]
 ·have HOK := hide (show ¬ prOk s from fun q => hok ⟨by rw [← unhide Hme, ← (unhide HPK).1, ← (unhide HPK).2.1, ← (unhide HPK).2.2]; exact q.1, by rw [← unhide Hmb, ← (unhide HPK).1, ← (unhide HPK).2.1, ← (unhide HPK).2.2]; exact q.2⟩)
  by_cases he : me = 0
  ·subst he
   have hq : (mb.toList == s.toList) = false := str_ne (fun q => hok ⟨rfl, q⟩)
   clear hok
   go_wp2
   have hA7 := (((unhide HA6).set 0 (.int .i64 0)).set 1 (.int .i64 0)).set 2 (.string ⟨#[]⟩)
   refine bodyPost_ret (v := .tuple #[.agg #[.int .i64 0, .int .i64 0, .string ⟨#[]⟩], .int .i64 35]) ?_ rfl ?_
   ·exact results_pair (p := 2) (q := 3) (ty := 95) rfl _ _ _ ⟨w.heap.size, 0, none⟩ (by rfl) _ (load_page _ _ _ _ _ hA7) _ (by rfl)
   ·exact ⟨.inr ⟨unhide HOK, rfl⟩, (((unhide HB7).setCell (p := ⟨w.heap.size, 0, none⟩) (Nat.le_refl _) _).setCell (p := ⟨w.heap.size, 1, none⟩) (Nat.le_refl _) _).setCell (p := ⟨w.heap.size, 2, none⟩) (Nat.le_refl _) _⟩
  ·have hq : (me != 0) = true := by simp [he]
   clear hok
   go_wp2
   have hA7 := (((unhide HA6).set 0 (.int .i64 0)).set 1 (.int .i64 0)).set 2 (.string ⟨#[]⟩)
   refine bodyPost_ret (v := .tuple #[.agg #[.int .i64 0, .int .i64 0, .string ⟨#[]⟩], .int .i64 35]) ?_ rfl ?_
   ·exact results_pair (p := 2) (q := 3) (ty := 95) rfl _ _ _ ⟨w.heap.size, 0, none⟩ (by rfl) _ (load_page _ _ _ _ _ hA7) _ (by rfl)
   ·exact ⟨.inr ⟨unhide HOK, rfl⟩, (((unhide HB7).setCell (p := ⟨w.heap.size, 0, none⟩) (Nat.le_refl _) _).setCell (p := ⟨w.heap.size, 1, none⟩) (Nat.le_refl _) _).setCell (p := ⟨w.heap.size, 2, none⟩) (Nat.le_refl _) _⟩
end Go.Proofs.YtiellebdliifdaaGreatDoor
namespace Go.Proofs.YtiellebdliifdaaGreatDoor
open Go.RowKit
theorem shr_step (v : Int) (k : Nat) : v / 2 ^ (8 * k) / 256 = v / 2 ^ (8 * (k + 1)) := by
 rw [Int.ediv_ediv_of_nonneg (by exact Int.pow_nonneg (by omega)), show 8 * (k + 1) = 8 * k + 8 by omega, Int.pow_add]
 rfl
theorem be_numB_take (v : Int) (k : Nat) (h : fitsP v k) : ∀ j, j ≤ k → beN ((numB v k).take j) = v / 2 ^ (8 * (k - j)) := by
 intro j
 induction j with
 | zero =>
  intro _
  rw [List.take_zero, beN_nil, Nat.sub_zero]
  exact h.2.symm
 | succ j ih =>
  intro hj
  rw [numB_take v k j (by omega), beN_snoc, ih (by omega), show k - j = (k - 1 - j) + 1 by omega, ← shr_step, show k - (j + 1) = k - 1 - j by omega]
  generalize v / 2 ^ (8 * (k - 1 - j)) = q
  omega
theorem be_numB (v : Int) (k : Nat) (h : fitsP v k) : beN (numB v k) = v := by
 have := be_numB_take v k h k (Nat.le_refl _)
 rw [numB_all, Nat.sub_self] at this
 simpa using this
theorem size_tail (s : ByteArray) (a : Nat) : (s.extract a s.size).size = s.size - a := by simp
theorem getD_drop0 (l : List Int) (i : Nat) : beN ((l.drop i).take 1) = l.getD i 0 := by
 by_cases h : i < l.length
 ·rw [List.drop_eq_getElem_cons h, List.getD_eq_getElem?_getD, List.getElem?_eq_getElem h]
  exact be_one _ _
 ·rw [List.drop_eq_nil_of_le (by omega), List.getD_eq_getElem?_getD, List.getElem?_eq_none (by omega)]
  rfl
set_option maxRecDepth 100000 in
theorem numE_ok (k : Nat) (r : ByteArray) (h1 : 1 ≤ k) (h7 : k ≤ 7) (h : k ≤ r.size) : numE (k : Int) r = 0 := by
 have hb := be_bound (nums r) (nums_bytes r) k
 have hp : (256 : Int) ^ k ≤ 256 ^ 7 := by
  have h1 : (256 : Nat) ^ k ≤ 256 ^ 7 := Nat.pow_le_pow_right (by decide) h7
  exact_mod_cast h1
 have h77 : (256 : Int) ^ 7 = 72057594037927936 := by decide
 rw [numE, if_neg (by omega), if_neg (by omega), Int.toNat_natCast, if_neg (by omega)]
theorem ps1_eq (s : ByteArray) (h : 2 ≤ s.size) : ps1 s = ⟨s.extract 2 s.size, 2, 0⟩ := by
 have hE : rawE 2 s = 0 := by rw [rawE, if_neg (by omega), if_neg (by omega)]
 rw [ps1, stepR, if_pos rfl, hE, rRest, if_pos rfl, rTak, if_pos rfl]
 rfl
theorem ps2_eq (s : ByteArray) (h : 3 ≤ s.size) : pkd s = (nums s).getD 2 0 ∧ ps2 s = ⟨s.extract 3 s.size, 3, 0⟩ := by
 have hE : numE 1 (s.extract 2 s.size) = 0 := numE_ok 1 _ (by omega) (by omega) (by rw [size_tail]; omega)
 refine ⟨?_, ?_⟩
 ·rw [pkd, ps1_eq s (by omega), if_pos rfl, numV, if_pos hE, nums_tail]
  exact getD_drop0 _ _
 ·rw [ps2, ps1_eq s (by omega), stepR, if_pos rfl, hE, rRest, if_pos rfl, rTak, if_pos rfl, extract_tail]
  rfl
theorem ps3_eq (s : ByteArray) (h : 4 ≤ s.size) : pln s = (nums s).getD 3 0 ∧ ps3 s = ⟨s.extract 4 s.size, 4, 0⟩ := by
 have hE : numE 1 (s.extract 3 s.size) = 0 := numE_ok 1 _ (by omega) (by omega) (by rw [size_tail]; omega)
 refine ⟨?_, ?_⟩
 ·rw [pln, (ps2_eq s (by omega)).2, if_pos rfl, numV, if_pos hE, nums_tail]
  exact getD_drop0 _ _
 ·rw [ps3, (ps2_eq s (by omega)).2, stepR, if_pos rfl, hE, rRest, if_pos rfl, rTak, if_pos rfl, extract_tail]
  rfl
theorem ps4_eq (s : ByteArray) (h : 8 ≤ s.size) : pnm s = beN (((nums s).drop 4).take 4) ∧ ps4 s = ⟨s.extract 8 s.size, 8, 0⟩ := by
 have hE : numE 4 (s.extract 4 s.size) = 0 := numE_ok 4 _ (by omega) (by omega) (by rw [size_tail]; omega)
 refine ⟨?_, ?_⟩
 ·rw [pnm, (ps3_eq s (by omega)).2, if_pos rfl, numV, if_pos hE, nums_tail]
  rfl
 ·rw [ps4, (ps3_eq s (by omega)).2, stepR, if_pos rfl, hE, rRest, if_pos rfl, rTak, if_pos rfl, extract_tail]
  rfl
theorem pbd_eq (s : ByteArray) (n : Nat) (h : 8 + n ≤ s.size) (hn : (nums s).getD 3 0 = (n : Int)) : pbd s = s.extract 8 (8 + n) := by
 have hE : rawE (n : Int) (s.extract 8 s.size) = 0 := by rw [rawE, if_neg (by omega), if_neg (by rw [size_tail]; omega)]
 rw [pbd, (ps4_eq s (by omega)).2, if_pos rfl, (ps3_eq s (by omega)).1, hn, rawV, if_pos hE, Int.toNat_natCast, extract_mid]
theorem page_front (kind number : Int) (body : List Int) (hk : fitsP kind 1) (hb : body.length ≤ 244) : makeL kind number body = [83, 66, kind, (body.length : Int)] ++ (numB number 4 ++ (body ++ (List.replicate (244 - body.length) 0 ++ le4 (chkN (pageL kind number body))))) := by
 obtain ⟨h1, h2⟩ := (fits1 kind).1 hk
 rw [makeL]
 conv => lhs; arg 1; rw [pageL]
 rw [numB1 kind h1 h2, numB1 (body.length : Int) (by omega) (by omega)]
 simp
theorem page_parts (kind number : Int) (body : ByteArray) (hk : fitsP kind 1) (hn : fitsP number 4) (hb : body.size ≤ 244) (s : ByteArray) (hs : nums s = makeL kind number (nums body)) :
  s.size = 256 ∧ (nums s).getD 2 0 = kind ∧ (nums s).getD 3 0 = (body.size : Int) ∧ beN (((nums s).drop 4).take 4) = number ∧ s.extract 8 (8 + body.size) = body := by
 have hl : (nums body).length ≤ 244 := by rw [nums_len]; exact hb
 have hsz : s.size = 256 := by rw [← nums_len, hs]; exact makeL_len _ _ _ hl
 have hf := page_front kind number (nums body) hk hl
 rw [nums_len] at hf
 refine ⟨hsz, ?_, ?_, ?_, ?_⟩
 ·rw [hs, hf]; rfl
 ·rw [hs, hf]; rfl
 ·rw [hs, hf]
  have e1 : ([83, 66, kind, (body.size : Int)] ++ (numB number 4 ++ (nums body ++ (List.replicate (244 - body.size) 0 ++ le4 (chkN (pageL kind number (nums body))))))).drop 4 = numB number 4 ++ (nums body ++ (List.replicate (244 - body.size) 0 ++ le4 (chkN (pageL kind number (nums body))))) := rfl
  rw [e1, List.take_append_of_le_length (by rw [numB_len]; exact Nat.le_refl _), numB_all, be_numB number 4 hn]
 ·apply nums_inj
  rw [nums_extract, List.drop_take, hs, hf]
  have e1 : ([83, 66, kind, (body.size : Int)] ++ (numB number 4 ++ (nums body ++ (List.replicate (244 - body.size) 0 ++ le4 (chkN (pageL kind number (nums body))))))).drop 8 = nums body ++ (List.replicate (244 - body.size) 0 ++ le4 (chkN (pageL kind number (nums body)))) := by
   rw [show (8 : Nat) = 4 + 4 from rfl, ← List.drop_drop]
   have e2 : ([83, 66, kind, (body.size : Int)] ++ (numB number 4 ++ (nums body ++ (List.replicate (244 - body.size) 0 ++ le4 (chkN (pageL kind number (nums body))))))).drop 4 = numB number 4 ++ (nums body ++ (List.replicate (244 - body.size) 0 ++ le4 (chkN (pageL kind number (nums body))))) := rfl
   rw [e2]
   have h4 : (numB number 4).length = 4 := numB_len _ _
   conv => lhs; arg 1; rw [← h4]
   rw [List.drop_left]
  rw [e1, show 8 + body.size - 8 = (nums body).length by rw [nums_len]; omega, List.take_left]
theorem make_parse (kind number : Int) (body : ByteArray) (hE : errM kind number body.size = 0) : prOk (makeB kind number body) ∧ pkd (makeB kind number body) = kind ∧ pnm (makeB kind number body) = number ∧ pbd (makeB kind number body) = body := by
 have hm : makeB kind number body = strOfNums (makeL kind number (nums body)) := by rw [makeB, if_pos hE]
 have hf : fitsP kind 1 ∧ fitsP number 4 ∧ body.size ≤ 244 := by
  unfold errM at hE
  split at hE
  ·cases hE
  ·rename_i h1
   split at hE
   ·cases hE
   ·simp at h1
    exact ⟨h1.1, h1.2, by omega⟩
 have hn : nums (makeB kind number body) = makeL kind number (nums body) := by rw [hm]; exact nums_strOfNums _ (makeL_bytes _ _ _ (nums_bytes _))
 obtain ⟨p1, p2, p3, p4, p5⟩ := page_parts kind number body hf.1 hf.2.1 hf.2.2 _ hn
 have k1 : pkd (makeB kind number body) = kind := by rw [(ps2_eq _ (by omega)).1, p2]
 have k2 : pnm (makeB kind number body) = number := by rw [(ps4_eq _ (by omega)).1, p4]
 have k3 : pbd (makeB kind number body) = body := by rw [pbd_eq _ body.size (by omega) p3, p5]
 exact ⟨⟨by rw [k1, k2, k3]; exact hE, by rw [k1, k2, k3]⟩, k1, k2, k3⟩
theorem errM_zero {kind number : Int} {n : Nat} (hE : errM kind number n = 0) : fitsP kind 1 ∧ fitsP number 4 ∧ n ≤ 244 := by
 unfold errM at hE
 split at hE
 ·cases hE
 ·rename_i h1
  split at hE
  ·cases hE
  ·simp at h1
   exact ⟨h1.1, h1.2, by omega⟩
theorem prOk_size (s : ByteArray) (h : prOk s) : s.size = 256 ∧ (nums s).getD 3 0 ≤ 244 := by
 obtain ⟨hf1, hf2, hf3⟩ := errM_zero h.1
 have hm : s = strOfNums (makeL (pkd s) (pnm s) (nums (pbd s))) := by
  have := h.2
  rw [makeB, if_pos h.1] at this
  exact this.symm
 have hn : nums s = makeL (pkd s) (pnm s) (nums (pbd s)) := by
  have := congrArg nums hm
  rwa [nums_strOfNums _ (makeL_bytes _ _ _ (nums_bytes _))] at this
 obtain ⟨p1, _, p3, _, _⟩ := page_parts (pkd s) (pnm s) (pbd s) hf1 hf2 hf3 s hn
 exact ⟨p1, by rw [p3]; omega⟩
end Go.Proofs.YtiellebdliifdaaGreatDoor
namespace Go.Proofs.YtiellebdliifdaaGreatDoor
open Go.RowKit
structure DSt where
 last : List ByteArray
 now : List ByteArray
 pend : List (Nat × ByteArray)
 acts : List (Nat × Nat)
 fuse : Int
 dead : Bool
def strs (l : List ByteArray) : List Value := l.map Value.string
def wrs : List (Nat × ByteArray) → List Value
 | [] => []
 | p :: r => .int .i64 (p.1 : Int) :: .string p.2 :: wrs r
def acs : List (Nat × Nat) → List Value
 | [] => []
 | p :: r => .int .u8 (p.1 : Int) :: .int .u16 (p.2 : Int) :: acs r
structure DV where
 l : Value
 n : Value
 p : Value
 a : Value
structure Dk (w : World) (base b : Nat) (v : DV) (s : DSt) : Prop where
 blk : Blk w b #[v.l, v.n, v.p, v.a, .int .i64 s.fuse, .bool s.dead] 109
 rl : w.ownsRow base 9 1 v.l s.last.length (strs s.last)
 rn : w.ownsRow base 9 1 v.n s.now.length (strs s.now)
 rp : w.ownsRow base 76 2 v.p s.pend.length (wrs s.pend)
 ra : w.ownsRow base 172 2 v.a s.acts.length (acs s.acts)
 ne : ∀ k, v.l.ownBlock = some k → v.n.ownBlock ≠ some k
 lo : base ≤ b
def Fd (b : Nat) (v : DV) (k : Nat) : Prop := k = b ∨ v.l.ownBlock = some k ∨ v.n.ownBlock = some k ∨ v.p.ownBlock = some k ∨ v.a.ownBlock = some k
def DPost (base b : Nat) (v : DV) (s : DSt) (w w' : World) : Prop :=
 ∃ v', Dk w' base b v' s ∧ Only (Fd b v) w w' ∧ ∀ k, Fd b v' k → Fd b v k ∨ w.heap.size ≤ k
theorem Dk.only {w w' : World} {base b : Nat} {v : DV} {s : DSt} {P : Nat → Prop} (h : Dk w base b v s) (ho : Only P w w') (hp : ∀ k, Fd b v k → ¬ P k) : Dk w' base b v s :=
 ⟨h.blk.only ho (hp b (.inl rfl)), owns_only h.rl ho (fun k hk => hp k (.inr (.inl hk))), owns_only h.rn ho (fun k hk => hp k (.inr (.inr (.inl hk)))), owns_only h.rp ho (fun k hk => hp k (.inr (.inr (.inr (.inl hk))))), owns_only h.ra ho (fun k hk => hp k (.inr (.inr (.inr (.inr hk))))), h.ne, h.lo⟩
theorem Dk.below {w w' : World} {base b : Nat} {v : DV} {s : DSt} (h : Dk w base b v s) (hb : Below w.heap.size w w') : Dk w' base b v s := h.only (Only.of_below (P := fun _ => False) hb) (fun _ _ q => q)
theorem DPost.refl {w : World} {base b : Nat} {v : DV} {s : DSt} (h : Dk w base b v s) : DPost base b v s w w := ⟨v, h, Only.refl _ _, fun _ hk => .inl hk⟩
theorem row_form {w : World} {base n : Nat} {e : TypeId} {k : Nat} {v : Value} {xs : List Value} (h : w.ownsRow base e k v n xs) : ∃ p cap, v = .slice p n cap ∧ n ≤ cap := by
 rcases h.2 with ⟨h1, h2⟩ | ⟨g, cap, cur, h1, _, _, h3, _⟩
 ·exact ⟨none, 0, by rw [h1, h2], by omega⟩
 ·exact ⟨_, cap, h1, h3⟩
theorem strs_len (l : List ByteArray) : (strs l).length = l.length := by simp [strs]
theorem wrs_app : ∀ l m : List (Nat × ByteArray), wrs (l ++ m) = wrs l ++ wrs m
 | [], m => rfl
 | p :: r, m => by simp [wrs, wrs_app r m]
theorem acs_app : ∀ l m : List (Nat × Nat), acs (l ++ m) = acs l ++ acs m
 | [], m => rfl
 | p :: r, m => by simp [acs, acs_app r m]
set_option maxRecDepth 100000 in
set_option maxHeartbeats 1000000 in
theorem size_any (w : World) (base b : Nat) (v : DV) (s : DSt) (h : Dk w base b v s) :
  Calls Tryz.prog 81 #[.pointer (some ⟨b, 0, none⟩)] w fun e w' => e = .returned (.int .i64 (s.last.length : Int)) ∧ w' = w := by
 obtain ⟨p, cap, e, hc⟩ := row_form h.rl
 have c2 : w.cell? ⟨b, 0, none⟩ = some (.slice p s.last.length cap) := by rw [h.blk.cell 0, ← e]; rfl
 clear h
 go_enter Tryz.func81, Tryz.ntmps81
 go_wp2
 go_ret
 exact ⟨rfl, rfl⟩
set_option maxRecDepth 100000 in
set_option maxHeartbeats 1000000 in
theorem has_any (w : World) (base b : Nat) (v : DV) (s : DSt) (h : Dk w base b v s) (i : Int) :
  Calls Tryz.prog 66 #[.pointer (some ⟨b, 0, none⟩), .int .i64 i] w fun e w' => e = .returned (.bool (decide (0 ≤ i ∧ i < (s.last.length : Int)))) ∧ w' = w := by
 have H := hide h
 clear h
 by_cases h0 : 0 ≤ i
 ·go_enter Tryz.func66, Tryz.ntmps66
  go_wp2_with fail
  refine (size_any w base b v s (unhide H)).mono ?_
  rintro ev x1 ⟨rfl, rfl⟩
  go_wp2
  go_ret
  exact ⟨by simp [h0], rfl⟩
 ·go_enter Tryz.func66, Tryz.ntmps66
  go_wp2
  go_ret
  exact ⟨by simp; omega, rfl⟩
set_option maxRecDepth 100000 in
set_option maxHeartbeats 1000000 in
theorem isSector_any (t : ByteArray) (w : World) :
  Calls Tryz.prog 67 #[.string t] w fun e w' => e = .returned (.bool (decide (t.size = 256))) ∧ w' = w := by
 go_enter Tryz.func67, Tryz.ntmps67
 go_wp2
 go_ret
 refine ⟨?_, rfl⟩
 by_cases h : t.size = 256
 ·simp [h]
 ·have : ¬ ((t.size : Int) = 256) := by omega
  simp [h, this]
set_option maxRecDepth 100000 in
set_option maxHeartbeats 1000000 in
theorem isSize_any (n : Int) (w : World) :
  Calls Tryz.prog 56 #[.int .i64 n] w fun e w' => e = .returned (.bool (decide (128 ≤ n ∧ n ≤ 1024))) ∧ w' = w := by
 by_cases h0 : 128 ≤ n
 ·go_enter Tryz.func56, Tryz.ntmps56
  go_wp2
  go_ret
  exact ⟨by simp [h0], rfl⟩
 ·go_enter Tryz.func56, Tryz.ntmps56
  go_wp2
  go_ret
  exact ⟨by simp; omega, rfl⟩
end Go.Proofs.YtiellebdliifdaaGreatDoor
