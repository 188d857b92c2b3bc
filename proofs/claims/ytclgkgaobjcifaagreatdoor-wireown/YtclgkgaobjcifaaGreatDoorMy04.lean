import Derived.Test.YtclgkgaobjcifaaGreatDoorMy03
import Derived.Test.YtclgkgaobjcifaaGreatDoorMy01
namespace Go.Proofs.YtclgkgaobjcifaaGreatDoor
open Go.RowKit
set_option maxRecDepth 100000
theorem fr_cell {W : World} {b : Nat} {fs : List Fld} {T : TypeId} (h : Blk W b (fs.map fv).toArray T) (k : Nat) (hk : k < fs.length) : W.cell? ⟨b, k, none⟩ = some (fv (fs[k])) := by
  rw [h.cell]; simp [hk]
set_option maxHeartbeats 4000000 in
theorem fieldsSize_any (fs : List Fld) (hF : ∀ f ∈ fs, IsF f) (hl : fs.length ≤ 1000) (v : Value) (w : World) (hR : FR w v fs) : Calls Tryz.prog 66 #[v] w fun e w' => e = .returned (.int .i64 (szF fs : Int)) ∧ Below w.heap.size w w' := by
  obtain ⟨p, rfl, hp⟩ := hR.form
  clear hR
  obtain ⟨g, hg⟩ : ∃ g, w.heap.size = g := ⟨_, rfl⟩
  have HP := hide (fun (h : 0 < fs.length) => hp h)
  have HS := hide (fun k (hk : k < fs.length) => szF_snoc fs k hk)
  have HSL := hide (fun k => szF_le (fs.take k) (fun f hf => hF f (List.mem_of_mem_take hf)))
  have HF := hide (fun k (hk : k < fs.length) => hF fs[k] (List.getElem_mem hk))
  have HC := hide (fun (W : World) (b : Nat) (h : Blk W b (fs.map fv).toArray 101) k hk => fr_cell h k hk)
  have HE := hide (show szF (fs.take fs.length) = szF fs by rw [List.take_length])
  have HL := hide hl
  clear hp hF hl
  obtain ⟨n, hn⟩ : ∃ n, fs.length = n := ⟨_, rfl⟩
  have HN := hide hn
  rw [hg, hn]
  go_enter Tryz.func66, Tryz.ntmps66
  go_wp2_with fail
  clear hn
  go_loopw [3, 8] (fun m i wr => ∃ k : Nat, k ≤ n ∧ i = .int .i64 (k : Int) ∧ m = .int .i64 (szF (fs.take k) : Int) ∧ Below g w wr) (fun _ i _ => n - (intOf i).toNat)
  case atStart => exact ⟨0, Nat.zero_le _, rfl, rfl, by rw [← hg]; exact Below.refl _ _⟩
  case round =>
    obtain ⟨k, hk, rfl, rfl, hB⟩ := hrel
    by_cases hkn : k < n
    · have hkn' : (k : Int) < (n : Int) := by omega
      have hk0 : (0 : Int) ≤ (k : Int) := by omega
      have hlen := unhide HN
      have hl := unhide HL
      obtain ⟨b, rfl, hBk⟩ := unhide HP (by omega)
      have hbg : b < g := by rw [← hg]; exact hBk.lt
      have hf := unhide HF k (by omega)
      have hc := unhide HC wr b (hBk.below hB hbg) k (by omega)
      have hs := unhide HS k (by omega)
      have hsl := unhide HSL k
      have hb256 := (isF_b hf).2
      have htl : (fs.take k).length ≤ k := by simp; omega
      have hwk : IntKind.i64.wrap ((k : Int) + 1) = ((k + 1 : Nat) : Int) := by rw [wrapI_eq _ (by omega) (by omega)]; omega
      have hwm : wrap64 ((szF (fs.take k) : Int) + (fs[k]'(by omega)).b) = (szF (fs.take (k + 1)) : Int) := by rw [wrap64_eq _ (by omega) (by omega)]; omega
      have HW := hide hwm
      have HB := hide hB
      have HLE := hide (show g ≤ wr.heap.size by rw [← hg]; exact hB.size)
      clear hBk hs hsl hb256 htl hwm hB hl hbg
      generalize fs[k]'(by omega) = f at *
      obtain ⟨M1, hM1⟩ : ∃ q, szF (fs.take (k + 1)) = q := ⟨_, rfl⟩
      have HM1 := hide hM1
      rw [hM1] at HW
      clear hM1
      generalize szF (fs.take k) = M0 at *
      clear hlen
      rcases hf with rfl | rfl | rfl | rfl | rfl | rfl | rfl | rfl | rfl | rfl | rfl | rfl
      · have hc' : wr.cell? ⟨b, k, none⟩ = some (.iface 121 (.agg #[.int .i64 1, .int .i64 1, .int .i64 8])) := hc
        have hw' : wrap64 ((M0 : Int) + 1) = (M1 : Int) := unhide HW
        clear hc HW
        go_wp2_with (go_at_call 131; refine (nsize_any _ _ _ _).mono ?_; rintro e x ⟨rfl, hx⟩; have HX := hide hx; clear hx)
        exact ⟨⟨k + 1, by omega, rfl, by rw [unhide HM1, hw'], (unhide HB).trans ((unhide HX).mono (unhide HLE))⟩, by simp [intOf]; omega⟩
      · have hc' : wr.cell? ⟨b, k, none⟩ = some (.iface 122 (.agg #[.int .i64 2, .int .i64 0, .int .i64 65535])) := hc
        have hw' : wrap64 ((M0 : Int) + 2) = (M1 : Int) := unhide HW
        clear hc HW
        go_wp2_with (go_at_call 131; refine (nsize_any _ _ _ _).mono ?_; rintro e x ⟨rfl, hx⟩; have HX := hide hx; clear hx)
        exact ⟨⟨k + 1, by omega, rfl, by rw [unhide HM1, hw'], (unhide HB).trans ((unhide HX).mono (unhide HLE))⟩, by simp [intOf]; omega⟩
      · have hc' : wr.cell? ⟨b, k, none⟩ = some (.iface 123 (.agg #[.int .i64 2, .int .i64 0, .int .i64 65535])) := hc
        have hw' : wrap64 ((M0 : Int) + 2) = (M1 : Int) := unhide HW
        clear hc HW
        go_wp2_with (go_at_call 131; refine (nsize_any _ _ _ _).mono ?_; rintro e x ⟨rfl, hx⟩; have HX := hide hx; clear hx)
        exact ⟨⟨k + 1, by omega, rfl, by rw [unhide HM1, hw'], (unhide HB).trans ((unhide HX).mono (unhide HLE))⟩, by simp [intOf]; omega⟩
      · have hc' : wr.cell? ⟨b, k, none⟩ = some (.iface 124 (.agg #[.int .i64 1, .int .i64 1, .int .i64 99])) := hc
        have hw' : wrap64 ((M0 : Int) + 1) = (M1 : Int) := unhide HW
        clear hc HW
        go_wp2_with (go_at_call 131; refine (nsize_any _ _ _ _).mono ?_; rintro e x ⟨rfl, hx⟩; have HX := hide hx; clear hx)
        exact ⟨⟨k + 1, by omega, rfl, by rw [unhide HM1, hw'], (unhide HB).trans ((unhide HX).mono (unhide HLE))⟩, by simp [intOf]; omega⟩
      · have hc' : wr.cell? ⟨b, k, none⟩ = some (.iface 125 (.agg #[.int .i64 1, .int .i64 0, .int .i64 255])) := hc
        have hw' : wrap64 ((M0 : Int) + 1) = (M1 : Int) := unhide HW
        clear hc HW
        go_wp2_with (go_at_call 131; refine (nsize_any _ _ _ _).mono ?_; rintro e x ⟨rfl, hx⟩; have HX := hide hx; clear hx)
        exact ⟨⟨k + 1, by omega, rfl, by rw [unhide HM1, hw'], (unhide HB).trans ((unhide HX).mono (unhide HLE))⟩, by simp [intOf]; omega⟩
      · have hc' : wr.cell? ⟨b, k, none⟩ = some (.iface 126 (.agg #[.int .i64 4, .int .i64 0, .int .i64 4294967295])) := hc
        have hw' : wrap64 ((M0 : Int) + 4) = (M1 : Int) := unhide HW
        clear hc HW
        go_wp2_with (go_at_call 131; refine (nsize_any _ _ _ _).mono ?_; rintro e x ⟨rfl, hx⟩; have HX := hide hx; clear hx)
        exact ⟨⟨k + 1, by omega, rfl, by rw [unhide HM1, hw'], (unhide HB).trans ((unhide HX).mono (unhide HLE))⟩, by simp [intOf]; omega⟩
      · have hc' : wr.cell? ⟨b, k, none⟩ = some (.iface 130 (.agg #[.int .i64 32])) := hc
        have hw' : wrap64 ((M0 : Int) + 32) = (M1 : Int) := unhide HW
        clear hc HW
        go_wp2_with (go_at_call 135; refine (tsize_any _ _).mono ?_; rintro e x ⟨rfl, hx⟩; have HX := hide hx; clear hx)
        exact ⟨⟨k + 1, by omega, rfl, by rw [unhide HM1, hw'], (unhide HB).trans ((unhide HX).mono (unhide HLE))⟩, by simp [intOf]; omega⟩
      · have hc' : wr.cell? ⟨b, k, none⟩ = some (.iface 131 (.agg #[.int .i64 48])) := hc
        have hw' : wrap64 ((M0 : Int) + 48) = (M1 : Int) := unhide HW
        clear hc HW
        go_wp2_with (go_at_call 135; refine (tsize_any _ _).mono ?_; rintro e x ⟨rfl, hx⟩; have HX := hide hx; clear hx)
        exact ⟨⟨k + 1, by omega, rfl, by rw [unhide HM1, hw'], (unhide HB).trans ((unhide HX).mono (unhide HLE))⟩, by simp [intOf]; omega⟩
      · have hc' : wr.cell? ⟨b, k, none⟩ = some (.iface 132 (.agg #[.int .i64 8])) := hc
        have hw' : wrap64 ((M0 : Int) + 8) = (M1 : Int) := unhide HW
        clear hc HW
        go_wp2_with (go_at_call 135; refine (tsize_any _ _).mono ?_; rintro e x ⟨rfl, hx⟩; have HX := hide hx; clear hx)
        exact ⟨⟨k + 1, by omega, rfl, by rw [unhide HM1, hw'], (unhide HB).trans ((unhide HX).mono (unhide HLE))⟩, by simp [intOf]; omega⟩
      · have hc' : wr.cell? ⟨b, k, none⟩ = some (.iface 133 (.agg #[.int .i64 256])) := hc
        have hw' : wrap64 ((M0 : Int) + 256) = (M1 : Int) := unhide HW
        clear hc HW
        go_wp2_with (go_at_call 135; refine (tsize_any _ _).mono ?_; rintro e x ⟨rfl, hx⟩; have HX := hide hx; clear hx)
        exact ⟨⟨k + 1, by omega, rfl, by rw [unhide HM1, hw'], (unhide HB).trans ((unhide HX).mono (unhide HLE))⟩, by simp [intOf]; omega⟩
      · have hc' : wr.cell? ⟨b, k, none⟩ = some (.iface 135 (.agg #[])) := hc
        have hw' : wrap64 ((M0 : Int) + 8) = (M1 : Int) := unhide HW
        clear hc HW
        go_wp2_with (go_at_call 138; refine (psize_any _).mono ?_; rintro e x ⟨rfl, hx⟩; have HX := hide hx; clear hx)
        exact ⟨⟨k + 1, by omega, rfl, by rw [unhide HM1, hw'], (unhide HB).trans ((unhide HX).mono (unhide HLE))⟩, by simp [intOf]; omega⟩
      · have hc' : wr.cell? ⟨b, k, none⟩ = some (.iface 136 (.agg #[])) := hc
        have hw' : wrap64 ((M0 : Int) + 9) = (M1 : Int) := unhide HW
        clear hc HW
        go_wp2_with (go_at_call 142; refine (vsize_any _).mono ?_; rintro e x ⟨rfl, hx⟩; have HX := hide hx; clear hx)
        exact ⟨⟨k + 1, by omega, rfl, by rw [unhide HM1, hw'], (unhide HB).trans ((unhide HX).mono (unhide HLE))⟩, by simp [intOf]; omega⟩
    · have hkn' : ¬ (k : Int) < (n : Int) := by omega
      obtain rfl : k = n := by omega
      have HB := hide hB
      clear hB
      have he := unhide HE
      rw [unhide HN] at he
      rw [he]
      clear he
      go_wp2
      go_ret
      exact ⟨rfl, unhide HB⟩
theorem frameSize_any (fs : List Fld) (hF : ∀ f ∈ fs, IsF f) (hl : fs.length ≤ 4) (v : Value) (w : World) (hR : FR w v fs) : Calls Tryz.prog 45 #[v] w fun e w' => e = .returned (.int .i64 ((5 + szF fs : Nat) : Int)) ∧ Below w.heap.size w w' := by
  have HS := hide (fieldsSize_any fs hF (by omega) v w hR)
  have hsz := szF_le fs hF
  have h1 : wrap64 (1 + (szF fs : Int)) = 1 + (szF fs : Int) := wrap64_eq _ (by omega) (by omega)
  have h2 : wrap64 (1 + (szF fs : Int) + 4) = ((5 + szF fs : Nat) : Int) := by rw [wrap64_eq _ (by omega) (by omega)]; omega
  clear hsz hR hF
  generalize (5 + szF fs : Nat) = M at *
  generalize szF fs = S at *
  go_enter Tryz.func45, Tryz.ntmps45
  go_wp2_with (go_at_call 66; refine (unhide HS).mono ?_; rintro e x ⟨rfl, hx⟩; have HX := hide hx; clear hx)
  go_ret
  exact ⟨by simp only [h1, h2]; rfl, unhide HX⟩
theorem kinds13 {k : Int} (h : 0 ≤ k ∧ k ≤ 12) : k = 0 ∨ k = 1 ∨ k = 2 ∨ k = 3 ∨ k = 4 ∨ k = 5 ∨ k = 6 ∨ k = 7 ∨ k = 8 ∨ k = 9 ∨ k = 10 ∨ k = 11 ∨ k = 12 := by omega
set_option maxHeartbeats 4000000 in
theorem room_any (k : Int) (h : 0 ≤ k ∧ k ≤ 12) (w : World) : Calls Tryz.prog 51 #[.int .i64 k] w fun e w' => e = .returned (.int .i64 (szF (rpF k) : Int)) ∧ Below w.heap.size w w' := by
  rcases kinds13 h with rfl | rfl | rfl | rfl | rfl | rfl | rfl | rfl | rfl | rfl | rfl | rfl | rfl <;> clear h <;> (go_enter Tryz.func51, Tryz.ntmps51; go_wp2; go_ret; exact ⟨rfl, (Below.refl _ _).alloc (Nat.le_refl _) _⟩)
end Go.Proofs.YtclgkgaobjcifaaGreatDoor

namespace Go.Proofs.YtclgkgaobjcifaaGreatDoor
open Go.RowKit
/-- a reply; its lists by their slices -/
structure Rep where
  st : Int
  qu : Int
  ch : Int
  vp : Option Addr
  vm : Nat
  vc : Nat
  no : Int
  pp : Option Addr
  pm : Nat
  pc : Nat
  wr : ByteArray
  da : ByteArray
def Rep.cs (r : Rep) : Array Value := #[.int .i64 r.st, .int .i64 r.qu, .int .i64 r.ch, .slice r.vp r.vm r.vc, .int .i64 r.no, .slice r.pp r.pm r.pc, .string r.wr, .string r.da]
def Rep.bare (s : Int) : Rep := ⟨s, 0, 0, none, 0, 0, 0, none, 0, 0, ⟨#[]⟩, ⟨#[]⟩⟩
/-- a reply with another part in the stead of a field's, and that one -/
def exr (f : Fld) (r : Rep) (p : Prt) : Rep × Prt :=
  if f.ty = 122 then ({ r with qu := p.n }, Prt.num r.qu)
  else if f.ty = 123 then ({ r with ch := p.n }, Prt.num r.ch)
  else if f.ty = 136 then ({ r with vp := p.p, vm := p.m, vc := p.c }, ⟨0, ⟨#[]⟩, r.vp, r.vm, r.vc⟩)
  else if f.ty = 126 then ({ r with no := p.n }, Prt.num r.no)
  else if f.ty = 135 then ({ r with pp := p.p, pm := p.m, pc := p.c }, ⟨0, ⟨#[]⟩, r.pp, r.pm, r.pc⟩)
  else if f.ty = 131 then ({ r with wr := p.t }, Prt.txt r.wr)
  else ({ r with da := p.t }, Prt.txt r.da)
/-- has a reply nothing but its status? -/
def bareP (r : Rep) : Bool := decide (r.qu = 0 ∧ r.ch = 0 ∧ r.vm = 0 ∧ r.no = 0 ∧ r.pm = 0 ∧ r.wr = ⟨#[]⟩ ∧ r.da = ⟨#[]⟩)
end Go.Proofs.YtclgkgaobjcifaaGreatDoor
