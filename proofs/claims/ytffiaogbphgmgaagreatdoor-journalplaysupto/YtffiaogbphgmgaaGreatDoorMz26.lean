import Derived.Test.YtffiaogbphgmgaaGreatDoorMz25
import Derived.Test.YtffiaogbphgmgaaGreatDoorMz20
namespace Go.Proofs.YtffiaogbphgmgaaGreatDoor
open Go.RowKit
set_option maxRecDepth 100000
/-- A block of another type comes into the fence. -/
theorem Sd.fen {w0 w : World} {xb b br : Nat} {s t : DSt} {cs : Array Value} {X : Nat → Prop} (h : Sd w0 w xb b br s t cs X) {jb : Nat} {c : Array Value} {T : TypeId} (hB : Blk w jb c T) (hT : FT T) (hTs : T ≠ 36) : Sd w0 w xb b br s t cs (fun k => X k ∨ k = jb) := by
  obtain ⟨v, vr, h1, h2, h3, h4, h5, h6, h7, h8⟩ := h
  refine ⟨v, vr, h1, h2, h3, h4, h5, h6, h7, fun k hk => ?_⟩
  rcases hk with q | q
  · exact h8 k q
  · rw [← q] at hB
    exact ⟨h1.noty hB hT, h2.noty hB hT, fun e => by rw [e] at hB; exact hTs (blk_ty hB h5), hB.lt⟩
theorem Sd.ne {w0 w : World} {xb b br : Nat} {s t : DSt} {cs : Array Value} {X : Nat → Prop} (h : Sd w0 w xb b br s t cs X) {k : Nat} (hk : X k) : k ≠ xb := by
  obtain ⟨v, vr, h1, h2, h3, h4, h5, h6, h7, h8⟩ := h
  exact (h8 k hk).2.2.1
/-- Open of the program's disk. -/
theorem Sd.openP {w0 w : World} {xb b br : Nat} {s t : DSt} {cs : Array Value} {X : Nat → Prop} (h : Sd w0 w xb b br s t cs X) (hg : ETy w) (hS : Sane s) (ht : (readT s 1).size ≤ 9223372036854775807) (hp : s.pend.length ≤ 40000000) (ha : s.acts.length ≤ 40000000) {n : Nat} {H : List Int} {ok : Bool} {s' : DSt} {er : Int} {ag has : Bool} (hR : RHP (readT s 1) (s.last.length : Int) (n : Int) H ok) (hO : OR s n H ok s' er ag has) :
    Calls Tryz.prog 29 #[.pointer (some ⟨b, 0, none⟩)] w fun e w' => (∃ jp, e = .returned (.tuple #[.pointer jp, .bool ag, .int .i64 er]) ∧ JpQ has w (fun W jb => Jb W jb b ((n + 1) % 4294967296) false) jp w') ∧ Sd w0 w' xb b br s' t cs X ∧ Only (fun k => ¬ X k ∧ k ≠ xb) w w' :=
  h.prog (R := fun e w' => ∃ jp, e = .returned (.tuple #[.pointer jp, .bool ag, .int .i64 er]) ∧ JpQ has w (fun W jb => Jb W jb b ((n + 1) % 4294967296) false) jp w') (fun v hD => (open_any w _ b v s hD hg h.bel.size hS ht (by omega) (by omega)).mono (fun _ _ hq => OpenPost.or hq hR hO))
/-- Open of the document's. -/
theorem Sd.openR {w0 w : World} {xb b br : Nat} {s t : DSt} {cs : Array Value} {X : Nat → Prop} (h : Sd w0 w xb b br s t cs X) (hS : Sane t) (hC : Coh t) (hp : t.pend.length ≤ 40000000) (ha : t.acts.length ≤ 100000000) (hL : 18 ≤ t.last.length) {n : Nat} {H : List Int} {ok : Bool} {s' : DSt} {er : Int} {ag has : Bool} (hR : RHP (readT t 1) (t.last.length : Int) (n : Int) H ok) (hO : OR t n H ok s' er ag has) :
    Calls Tryz.prog 30 #[.pointer (some ⟨br, 0, none⟩)] w fun e w' => (∃ jp, e = .returned (.tuple #[.pointer jp, .bool ag, .int .i64 er]) ∧ JpQ has w (fun W jb => Rj W jb br n false) jp w') ∧ Sd w0 w' xb b br s s' cs X ∧ Only (fun k => ¬ X k ∧ k ≠ xb) w w' :=
  h.doc (R := fun e w' => ∃ jp, e = .returned (.tuple #[.pointer jp, .bool ag, .int .i64 er]) ∧ JpQ has w (fun W jb => Rj W jb br n false) jp w') (fun _ hD => (ropen_any hD h.bel.size hS hC (by omega) (by omega) hL).mono (fun _ _ hq => ROQ.or hq hR hO))
end Go.Proofs.YtffiaogbphgmgaaGreatDoor

namespace Go.Proofs.YtffiaogbphgmgaaGreatDoor
open Go.RowKit
set_option maxRecDepth 100000
theorem Sd.arm {w0 w : World} {xb b br : Nat} {s t : DSt} {cs : Array Value} {X : Nat → Prop} (h : Sd w0 w xb b br s t cs X) (i : Int) :
    Calls Tryz.prog 24 #[.pointer (some ⟨b, 0, none⟩), .int .i64 i] w fun e w' => e = .returned (.int .i64 (armE s i)) ∧ Sd w0 w' xb b br (armS s i) t cs X ∧ Only (fun k => ¬ X k ∧ k ≠ xb) w w' :=
  h.prog (R := fun e _ => e = .returned (.int .i64 (armE s i))) (fun v hD => (arm_any w _ b v s hD i).mono (fun _ _ q => ⟨q.1, v, q.2.1, q.2.2, fun _ r => .inl r⟩))
theorem Sd.rarm {w0 w : World} {xb b br : Nat} {s t : DSt} {cs : Array Value} {X : Nat → Prop} (h : Sd w0 w xb b br s t cs X) (i : Int) :
    Calls Tryz.prog 25 #[.pointer (some ⟨br, 0, none⟩), .int .i64 i] w fun e w' => e = .returned (.int .i64 (armE t i)) ∧ Sd w0 w' xb b br s (armS t i) cs X ∧ Only (fun k => ¬ X k ∧ k ≠ xb) w w' :=
  h.doc (R := fun e _ => e = .returned (.int .i64 (armE t i))) (fun v hD => (rarm_any w _ br v t hD i).mono (fun _ _ q => ⟨q.1, v, q.2.1, q.2.2, fun _ r => .inl r⟩))
theorem Sd.crash {w0 w : World} {xb b br : Nat} {s t : DSt} {cs : Array Value} {X : Nat → Prop} (h : Sd w0 w xb b br s t cs X) (hS : Sane s) (hp : s.pend.length ≤ 100000000) (p : Option Addr) (l : List Int) (c : Nat) (hl : Ints w p l) (hll : l.length ≤ 9223372036854775807) :
    Calls Tryz.prog 13 #[.pointer (some ⟨b, 0, none⟩), .slice p l.length c] w fun e w' => e = .returned (.int .i64 (crashE s l)) ∧ Sd w0 w' xb b br (crashS s l) t cs X ∧ Only (fun k => ¬ X k ∧ k ≠ xb) w w' :=
  h.prog (R := fun e _ => e = .returned (.int .i64 (crashE s l))) (fun v hD => crash_any w _ b v s hD h.bel.size hS (by omega) p l c hl hll)
theorem Sd.rcrash {w0 w : World} {xb b br : Nat} {s t : DSt} {cs : Array Value} {X : Nat → Prop} (h : Sd w0 w xb b br s t cs X) (hS : Sane t) (hp : t.pend.length ≤ 100000000) (p : Option Addr) (l : List Int) (c : Nat) (hl : Ints w p l) (hll : l.length ≤ 9223372036854775807) (hp2 : ∀ g o, p = some ⟨g, o, none⟩ → 0 < l.length → g < w0.heap.size) :
    Calls Tryz.prog 26 #[.pointer (some ⟨br, 0, none⟩), .slice p l.length c] w fun e w' => e = .returned (.int .i64 (crashE t l)) ∧ Sd w0 w' xb b br s (crashS t l) cs X ∧ Only (fun k => ¬ X k ∧ k ≠ xb) w w' :=
  h.doc (R := fun e _ => e = .returned (.int .i64 (crashE t l))) (fun v hD => rcrash_any w _ br v t hD hS (by omega) p l c hl hll (fun g o e z q => by have := (hD.frB g q).1; have := hp2 g o e z; omega))
theorem Sd.fmt {w0 w : World} {xb b br : Nat} {s t : DSt} {cs : Array Value} {X : Nat → Prop} (h : Sd w0 w xb b br s t cs X) (hS : Sane s) (hp : s.pend.length ≤ 40000000) (ha : s.acts.length ≤ 40000000) :
    Calls Tryz.prog 27 #[.pointer (some ⟨b, 0, none⟩)] w fun e w' => e = .returned (.int .i64 ((layR s [(1, headB 0 [])]).1)) ∧ Sd w0 w' xb b br ((layR s [(1, headB 0 [])]).2) t cs X ∧ Only (fun k => ¬ X k ∧ k ≠ xb) w w' :=
  h.prog (R := fun e _ => e = .returned (.int .i64 ((layR s [(1, headB 0 [])]).1))) (fun v hD => format_any w _ b v s hD h.bel.size hS (by omega) (by omega))
theorem Sd.rfmt {w0 w : World} {xb b br : Nat} {s t : DSt} {cs : Array Value} {X : Nat → Prop} (h : Sd w0 w xb b br s t cs X) (hS : Sane t) (hC : Coh t) (hp : t.pend.length ≤ 40000000) (ha : t.acts.length ≤ 40000000) :
    Calls Tryz.prog 28 #[.pointer (some ⟨br, 0, none⟩)] w fun e w' => e = .returned (.int .i64 ((layR t [(1, headB 0 [])]).1)) ∧ Sd w0 w' xb b br s ((layR t [(1, headB 0 [])]).2) cs X ∧ Only (fun k => ¬ X k ∧ k ≠ xb) w w' :=
  h.doc (R := fun e _ => e = .returned (.int .i64 ((layR t [(1, headB 0 [])]).1))) (fun v hD => rformat_any w _ br v t hD h.bel.size hS hC (by omega) (by omega))
set_option maxHeartbeats 4000000 in
theorem stepFl {w0 w : World} {xb b br : Nat} {s : DSt} {p1 p2 p3 p4 : Option Addr} {X : Nat → Prop} (h : Sd w0 w xb b br s s #[.pointer (some ⟨b, 0, none⟩), .pointer (some ⟨br, 0, none⟩), .pointer p1, .pointer p2, .pointer p3, .pointer p4] X) (hS : Sane s) (hC : Coh s) (hp : s.pend.length ≤ 40000000) (ha : s.acts.length ≤ 40000000) (on i : Int) (x : ByteArray) (l1 l2 l3 : Option Addr) (n1 n2 n3 m1 m2 m3 : Nat) :
    Calls Tryz.prog 8 #[.pointer (some ⟨xb, 0, none⟩), .agg #[.int .i64 2, .int .i64 on, .int .i64 i, .string x, .slice l1 n1 m1, .slice l2 n2 m2, .slice l3 n3 m3]] w fun e w' => e = .returned (.bool true) ∧ Sd w0 w' xb b br (flushS s) (flushS s) #[.pointer (some ⟨b, 0, none⟩), .pointer (some ⟨br, 0, none⟩), .pointer p1, .pointer p2, .pointer p3, .pointer p4] X ∧ Only (fun k => ¬ X k) w w' := by
  obtain ⟨go, hgo⟩ : ∃ z, w.heap.size = z := ⟨_, rfl⟩
  obtain ⟨x0, hx0⟩ : ∃ z, w.alloc (.cells #[.int .i64 2, .int .i64 on, .int .i64 i, .string x, .slice l1 n1 m1, .slice l2 n2 m2, .slice l3 n3 m3] 41) = z := ⟨_, rfl⟩
  have B0 : Blk x0 go #[.int .i64 2, .int .i64 on, .int .i64 i, .string x, .slice l1 n1 m1, .slice l2 n2 m2, .slice l3 n3 m3] 41 := by rw [← hx0, ← hgo]; exact Blk.new w _ _
  have hb0 : Below w.heap.size w x0 := by rw [← hx0]; exact (Below.refl _ _).alloc (Nat.le_refl _) _
  have h0 : Sd w0 x0 xb b br s s #[.pointer (some ⟨b, 0, none⟩), .pointer (some ⟨br, 0, none⟩), .pointer p1, .pointer p2, .pointer p3, .pointer p4] (fun k => X k ∨ k = go) := h.more hb0 (fun k q => q.imp_right (fun e => by rw [e]; exact ⟨by omega, B0.lt⟩))
  have k0 : x0.cell? ⟨go, 0, none⟩ = some (.int .i64 2) := B0.cell 0
  have HBO := hide hb0
  have c0 : x0.cell? ⟨xb, 0, none⟩ = some (.pointer (some ⟨b, 0, none⟩)) := h0.blk.cell 0
  have HW1 := hide (h0.fl hS hp ha)
  have HP := hide (And.intro hS (And.intro hC (And.intro hp ha)))
  obtain ⟨s1, hs1⟩ : ∃ z, flushS s = z := ⟨_, rfl⟩
  obtain ⟨e1, he1⟩ : ∃ z, flushE s = z := ⟨_, rfl⟩
  rw [hs1, he1] at HW1
  rw [hs1]
  have HE := hide (And.intro hs1 he1)
  clear h hS hC hp ha B0 hb0 h0 hs1 he1
  go_enter Tryz.func8, Tryz.ntmps8
  go_wp2_with fail
  clear hx0 k0
  refine (unhide HW1).mono ?_
  rintro e x1 ⟨rfl, h1, hO1⟩
  have c1 : x1.cell? ⟨xb, 1, none⟩ = some (.pointer (some ⟨br, 0, none⟩)) := h1.blk.cell 1
  have HW2 := hide (h1.rfl_ (unhide HP).1 (unhide HP).2.1 (unhide HP).2.2.1 (unhide HP).2.2.2)
  rw [(unhide HE).1, (unhide HE).2] at HW2
  have HO1 := hide hO1
  have ee : (e1 == e1) = true := by simp
  clear h1 hO1 HW1 c0
  go_wp2_with fail
  refine (unhide HW2).mono ?_
  rintro e x2 ⟨rfl, h2, hO2⟩
  have HF := hide (show Sd w0 x2 xb b br s1 s1 #[.pointer (some ⟨b, 0, none⟩), .pointer (some ⟨br, 0, none⟩), .pointer p1, .pointer p2, .pointer p3, .pointer p4] X ∧ Only (fun k => ¬ X k) w x2 from ⟨h2.more (Below.refl _ _) (fun k q => .inl (.inl q)), ((Only.of_below (P := fun k => ¬ X k) (unhide HBO)).trans ((unhide HO1).mono (fun k _ q r => q.1 (.inl r))) (fun _ _ q => q)).trans (hO2.mono (fun k _ q r => q.1 (.inl r))) (fun _ _ q => q)⟩)
  clear h2 hO2 HW2 c1 HO1
  go_wp2
  go_ret
  exact ⟨rfl, unhide HF⟩
set_option maxHeartbeats 4000000 in
theorem stepFm {w0 w : World} {xb b br : Nat} {s : DSt} {p1 p2 p3 p4 : Option Addr} {X : Nat → Prop} (h : Sd w0 w xb b br s s #[.pointer (some ⟨b, 0, none⟩), .pointer (some ⟨br, 0, none⟩), .pointer p1, .pointer p2, .pointer p3, .pointer p4] X) (hS : Sane s) (hC : Coh s) (hp : s.pend.length ≤ 40000000) (ha : s.acts.length ≤ 40000000) (on i : Int) (x : ByteArray) (l1 l2 l3 : Option Addr) (n1 n2 n3 m1 m2 m3 : Nat) :
    Calls Tryz.prog 8 #[.pointer (some ⟨xb, 0, none⟩), .agg #[.int .i64 5, .int .i64 on, .int .i64 i, .string x, .slice l1 n1 m1, .slice l2 n2 m2, .slice l3 n3 m3]] w fun e w' => e = .returned (.bool true) ∧ Sd w0 w' xb b br ((layR s [(1, headB 0 [])]).2) ((layR s [(1, headB 0 [])]).2) #[.pointer (some ⟨b, 0, none⟩), .pointer (some ⟨br, 0, none⟩), .pointer p1, .pointer p2, .pointer p3, .pointer p4] X ∧ Only (fun k => ¬ X k) w w' := by
  obtain ⟨go, hgo⟩ : ∃ z, w.heap.size = z := ⟨_, rfl⟩
  obtain ⟨x0, hx0⟩ : ∃ z, w.alloc (.cells #[.int .i64 5, .int .i64 on, .int .i64 i, .string x, .slice l1 n1 m1, .slice l2 n2 m2, .slice l3 n3 m3] 41) = z := ⟨_, rfl⟩
  have B0 : Blk x0 go #[.int .i64 5, .int .i64 on, .int .i64 i, .string x, .slice l1 n1 m1, .slice l2 n2 m2, .slice l3 n3 m3] 41 := by rw [← hx0, ← hgo]; exact Blk.new w _ _
  have hb0 : Below w.heap.size w x0 := by rw [← hx0]; exact (Below.refl _ _).alloc (Nat.le_refl _) _
  have h0 : Sd w0 x0 xb b br s s #[.pointer (some ⟨b, 0, none⟩), .pointer (some ⟨br, 0, none⟩), .pointer p1, .pointer p2, .pointer p3, .pointer p4] (fun k => X k ∨ k = go) := h.more hb0 (fun k q => q.imp_right (fun e => by rw [e]; exact ⟨by omega, B0.lt⟩))
  have k0 : x0.cell? ⟨go, 0, none⟩ = some (.int .i64 5) := B0.cell 0
  have HBO := hide hb0
  have c0 : x0.cell? ⟨xb, 0, none⟩ = some (.pointer (some ⟨b, 0, none⟩)) := h0.blk.cell 0
  have HW1 := hide (h0.fmt hS hp ha)
  have HP := hide (And.intro hS (And.intro hC (And.intro hp ha)))
  obtain ⟨s1, hs1⟩ : ∃ z, (layR s [(1, headB 0 [])]).2 = z := ⟨_, rfl⟩
  obtain ⟨e1, he1⟩ : ∃ z, (layR s [(1, headB 0 [])]).1 = z := ⟨_, rfl⟩
  rw [hs1, he1] at HW1
  rw [hs1]
  have HE := hide (And.intro hs1 he1)
  clear h hS hC hp ha B0 hb0 h0 hs1 he1
  go_enter Tryz.func8, Tryz.ntmps8
  go_wp2_with fail
  clear hx0 k0
  refine (unhide HW1).mono ?_
  rintro e x1 ⟨rfl, h1, hO1⟩
  have c1 : x1.cell? ⟨xb, 1, none⟩ = some (.pointer (some ⟨br, 0, none⟩)) := h1.blk.cell 1
  have HW2 := hide (h1.rfmt (unhide HP).1 (unhide HP).2.1 (unhide HP).2.2.1 (unhide HP).2.2.2)
  rw [(unhide HE).1, (unhide HE).2] at HW2
  have HO1 := hide hO1
  have ee : (e1 == e1) = true := by simp
  clear h1 hO1 HW1 c0
  go_wp2_with fail
  refine (unhide HW2).mono ?_
  rintro e x2 ⟨rfl, h2, hO2⟩
  have HF := hide (show Sd w0 x2 xb b br s1 s1 #[.pointer (some ⟨b, 0, none⟩), .pointer (some ⟨br, 0, none⟩), .pointer p1, .pointer p2, .pointer p3, .pointer p4] X ∧ Only (fun k => ¬ X k) w x2 from ⟨h2.more (Below.refl _ _) (fun k q => .inl (.inl q)), ((Only.of_below (P := fun k => ¬ X k) (unhide HBO)).trans ((unhide HO1).mono (fun k _ q r => q.1 (.inl r))) (fun _ _ q => q)).trans (hO2.mono (fun k _ q r => q.1 (.inl r))) (fun _ _ q => q)⟩)
  clear h2 hO2 HW2 c1 HO1
  go_wp2
  go_ret
  exact ⟨rfl, unhide HF⟩
set_option maxHeartbeats 4000000 in
theorem stepAr {w0 w : World} {xb b br : Nat} {s : DSt} {p1 p2 p3 p4 : Option Addr} {X : Nat → Prop} (h : Sd w0 w xb b br s s #[.pointer (some ⟨b, 0, none⟩), .pointer (some ⟨br, 0, none⟩), .pointer p1, .pointer p2, .pointer p3, .pointer p4] X) (hS : Sane s) (hC : Coh s) (hp : s.pend.length ≤ 40000000) (ha : s.acts.length ≤ 40000000) (on i : Int) (x : ByteArray) (l1 l2 l3 : Option Addr) (n1 n2 n3 m1 m2 m3 : Nat) :
    Calls Tryz.prog 8 #[.pointer (some ⟨xb, 0, none⟩), .agg #[.int .i64 3, .int .i64 on, .int .i64 i, .string x, .slice l1 n1 m1, .slice l2 n2 m2, .slice l3 n3 m3]] w fun e w' => e = .returned (.bool true) ∧ Sd w0 w' xb b br (armS s i) (armS s i) #[.pointer (some ⟨b, 0, none⟩), .pointer (some ⟨br, 0, none⟩), .pointer p1, .pointer p2, .pointer p3, .pointer p4] X ∧ Only (fun k => ¬ X k) w w' := by
  obtain ⟨go, hgo⟩ : ∃ z, w.heap.size = z := ⟨_, rfl⟩
  obtain ⟨x0, hx0⟩ : ∃ z, w.alloc (.cells #[.int .i64 3, .int .i64 on, .int .i64 i, .string x, .slice l1 n1 m1, .slice l2 n2 m2, .slice l3 n3 m3] 41) = z := ⟨_, rfl⟩
  have B0 : Blk x0 go #[.int .i64 3, .int .i64 on, .int .i64 i, .string x, .slice l1 n1 m1, .slice l2 n2 m2, .slice l3 n3 m3] 41 := by rw [← hx0, ← hgo]; exact Blk.new w _ _
  have hb0 : Below w.heap.size w x0 := by rw [← hx0]; exact (Below.refl _ _).alloc (Nat.le_refl _) _
  have h0 : Sd w0 x0 xb b br s s #[.pointer (some ⟨b, 0, none⟩), .pointer (some ⟨br, 0, none⟩), .pointer p1, .pointer p2, .pointer p3, .pointer p4] (fun k => X k ∨ k = go) := h.more hb0 (fun k q => q.imp_right (fun e => by rw [e]; exact ⟨by omega, B0.lt⟩))
  have k0 : x0.cell? ⟨go, 0, none⟩ = some (.int .i64 3) := B0.cell 0
  have HBO := hide hb0
  have hbd0 : Below x0.heap.size x0 x0.drew := (Below.refl _ _).drew
  have h0d := h0.below hbd0
  have B0d := B0.below hbd0 B0.lt
  have HB := hide B0d
  have c0 : x0.drew.cell? ⟨xb, 0, none⟩ = some (.pointer (some ⟨b, 0, none⟩)) := h0d.blk.cell 0
  have o2 : x0.drew.cell? ⟨go, 2, none⟩ = some (.int .i64 i) := B0d.cell 2
  have HW1 := hide (h0d.arm i)
  have HP := hide (And.intro hS (And.intro hC (And.intro hp ha)))
  obtain ⟨s1, hs1⟩ : ∃ z, armS s i = z := ⟨_, rfl⟩
  obtain ⟨e1, he1⟩ : ∃ z, armE s i = z := ⟨_, rfl⟩
  rw [hs1, he1] at HW1
  rw [hs1]
  have HE := hide (And.intro hs1 he1)
  clear h hS hC hp ha B0 hb0 h0 hs1 he1 hbd0 h0d B0d
  go_enter Tryz.func8, Tryz.ntmps8
  go_wp2_with fail
  clear hx0 k0
  refine wp_region_held_drew (S := fun W => W.cell? ⟨xb, 0, none⟩ = some (.pointer (some ⟨b, 0, none⟩)) ∧ W.cell? ⟨go, 2, none⟩ = some (.int .i64 i)) (by kernel_rfl) ⟨c0, o2⟩ ?_
  intro hS
  refine wpAnyH_takeD 0 (some 66) (.pointer (some ⟨xb, 0, none⟩)) rfl rfl (by kernel_rfl) (by kernel_rfl) (by kernel_rfl) (fun _ _ _ h => h) (Or.inl ⟨by rfl, fun w hSw => by obtain ⟨q0, q1⟩ := hSw; go_simp⟩) hS ?_
  simp only [Act.put, List.setIfInBounds_toArray, List.set_cons_zero, List.set_cons_succ]
  refine wpAnyH_takeD 1 (some 67) (.pointer (some ⟨xb, 0, none⟩)) rfl rfl (by kernel_rfl) (by kernel_rfl) (by kernel_rfl) (fun _ _ _ h => h) (Or.inl ⟨by rfl, fun w hSw => by obtain ⟨q0, q1⟩ := hSw; go_simp⟩) hS ?_
  simp only [Act.put, List.setIfInBounds_toArray, List.set_cons_zero, List.set_cons_succ]
  refine wpAnyH_takeD 2 (some 68) (.pointer (some ⟨xb, 0, none⟩)) rfl rfl (by kernel_rfl) (by kernel_rfl) (by kernel_rfl) (fun _ _ _ h => h) (Or.inl ⟨by rfl, fun w hSw => by obtain ⟨q0, q1⟩ := hSw; go_simp⟩) hS ?_
  simp only [Act.put, List.setIfInBounds_toArray, List.set_cons_zero, List.set_cons_succ]
  refine wpAnyH_takeD 3 (some 69) (.pointer (some ⟨b, 0, none⟩)) rfl rfl (by kernel_rfl) (by kernel_rfl) (by kernel_rfl) (fun _ _ _ h => h) (Or.inl ⟨by rfl, fun w hSw => by obtain ⟨q0, q1⟩ := hSw; go_simp⟩) hS ?_
  simp only [Act.put, List.setIfInBounds_toArray, List.set_cons_zero, List.set_cons_succ]
  refine wpAnyH_takeD 4 (some 70) (.pointer (some ⟨go, 2, none⟩)) rfl rfl (by kernel_rfl) (by kernel_rfl) (by kernel_rfl) (fun _ _ _ h => h) (Or.inl ⟨by rfl, fun w hSw => by obtain ⟨q0, q1⟩ := hSw; go_simp⟩) hS ?_
  simp only [Act.put, List.setIfInBounds_toArray, List.set_cons_zero, List.set_cons_succ]
  refine wpAnyH_takeD 5 (some 71) (.int .i64 i) rfl rfl (by kernel_rfl) (by kernel_rfl) (by kernel_rfl) (fun _ _ _ h => h) (Or.inl ⟨by rfl, fun w hSw => by obtain ⟨q0, q1⟩ := hSw; go_simp⟩) hS ?_
  simp only [Act.put, List.setIfInBounds_toArray, List.set_cons_zero, List.set_cons_succ]
  refine wpAnyH_ready (rs := [6]) (by kernel_rfl) (by simp) ?_
  refine AllReadyH.cons rfl (fun K hK => ?_) AllReadyH.nil
  simp only [List.getElem_toArray, List.getElem_cons_succ, List.getElem_cons_zero]
  go_simp
  refine (unhide HW1).mono ?_
  rintro e y1 ⟨rfl, h2, hO2⟩
  have d0 : y1.cell? ⟨xb, 0, none⟩ = some (.pointer (some ⟨b, 0, none⟩)) := h2.blk.cell 0
  have B2 := (unhide HB).only hO2 (fun q => q.1 (.inr rfl))
  have d2 : y1.cell? ⟨go, 2, none⟩ = some (.int .i64 i) := B2.cell 2
  have HY := hide (And.intro h2 (And.intro B2 hO2))
  clear h2 hO2 B2
  refine hK.out _ _ ⟨d0, d2⟩ (fun hS => ?_)
  clear hK K
  refine wpAnyH_takeD 7 (some 8) (.int .i64 e1) rfl rfl (by kernel_rfl) (by kernel_rfl) (by kernel_rfl) (fun _ _ _ h => h) (Or.inl ⟨by rfl, fun w hSw => by obtain ⟨q0, q1⟩ := hSw; go_simp⟩) hS ?_
  simp only [Act.put, List.setIfInBounds_toArray, List.set_cons_zero, List.set_cons_succ]
  refine wpAnyH_done (by kernel_rfl) ?_ _
  clear hS d0 d2 c0 o2 HW1 HB
  obtain ⟨x2, rfl⟩ : ∃ W, W = y1 := ⟨_, rfl⟩
  have hbd : Below x2.heap.size x2 x2.drew := (Below.refl _ _).drew
  have h2 := (unhide HY).1.below hbd
  have B2 := (unhide HY).2.1.below hbd (unhide HY).2.1.lt
  have HO1 := hide (unhide HY).2.2
  clear HY
  have HB := hide B2
  have c0 : x2.drew.cell? ⟨xb, 1, none⟩ = some (.pointer (some ⟨br, 0, none⟩)) := h2.blk.cell 1
  have o2 : x2.drew.cell? ⟨go, 2, none⟩ = some (.int .i64 i) := B2.cell 2
  have HW := hide (h2.rarm i)
  rw [(unhide HE).1, (unhide HE).2] at HW
  have ee : (e1 == e1) = true := by simp
  clear hbd h2 B2
  go_wp2_with fail
  refine wp_region_held_drew (S := fun W => W.cell? ⟨xb, 1, none⟩ = some (.pointer (some ⟨br, 0, none⟩)) ∧ W.cell? ⟨go, 2, none⟩ = some (.int .i64 i)) (by kernel_rfl) ⟨c0, o2⟩ ?_
  intro hS
  refine wpAnyH_takeD 0 (some 73) (.int .i64 e1) rfl rfl (by kernel_rfl) (by kernel_rfl) (by kernel_rfl) (fun _ _ _ h => h) (Or.inl ⟨by rfl, fun w hSw => by obtain ⟨q0, q1⟩ := hSw; go_simp⟩) hS ?_
  simp only [Act.put, List.setIfInBounds_toArray, List.set_cons_zero, List.set_cons_succ]
  refine wpAnyH_takeD 1 (some 74) (.pointer (some ⟨xb, 0, none⟩)) rfl rfl (by kernel_rfl) (by kernel_rfl) (by kernel_rfl) (fun _ _ _ h => h) (Or.inl ⟨by rfl, fun w hSw => by obtain ⟨q0, q1⟩ := hSw; go_simp⟩) hS ?_
  simp only [Act.put, List.setIfInBounds_toArray, List.set_cons_zero, List.set_cons_succ]
  refine wpAnyH_takeD 2 (some 75) (.pointer (some ⟨xb, 0, none⟩)) rfl rfl (by kernel_rfl) (by kernel_rfl) (by kernel_rfl) (fun _ _ _ h => h) (Or.inl ⟨by rfl, fun w hSw => by obtain ⟨q0, q1⟩ := hSw; go_simp⟩) hS ?_
  simp only [Act.put, List.setIfInBounds_toArray, List.set_cons_zero, List.set_cons_succ]
  refine wpAnyH_takeD 3 (some 76) (.pointer (some ⟨xb, 1, none⟩)) rfl rfl (by kernel_rfl) (by kernel_rfl) (by kernel_rfl) (fun _ _ _ h => h) (Or.inl ⟨by rfl, fun w hSw => by obtain ⟨q0, q1⟩ := hSw; go_simp⟩) hS ?_
  simp only [Act.put, List.setIfInBounds_toArray, List.set_cons_zero, List.set_cons_succ]
  refine wpAnyH_takeD 4 (some 77) (.pointer (some ⟨br, 0, none⟩)) rfl rfl (by kernel_rfl) (by kernel_rfl) (by kernel_rfl) (fun _ _ _ h => h) (Or.inl ⟨by rfl, fun w hSw => by obtain ⟨q0, q1⟩ := hSw; go_simp⟩) hS ?_
  simp only [Act.put, List.setIfInBounds_toArray, List.set_cons_zero, List.set_cons_succ]
  refine wpAnyH_takeD 5 (some 78) (.pointer (some ⟨go, 2, none⟩)) rfl rfl (by kernel_rfl) (by kernel_rfl) (by kernel_rfl) (fun _ _ _ h => h) (Or.inl ⟨by rfl, fun w hSw => by obtain ⟨q0, q1⟩ := hSw; go_simp⟩) hS ?_
  simp only [Act.put, List.setIfInBounds_toArray, List.set_cons_zero, List.set_cons_succ]
  refine wpAnyH_takeD 6 (some 79) (.int .i64 i) rfl rfl (by kernel_rfl) (by kernel_rfl) (by kernel_rfl) (fun _ _ _ h => h) (Or.inl ⟨by rfl, fun w hSw => by obtain ⟨q0, q1⟩ := hSw; go_simp⟩) hS ?_
  simp only [Act.put, List.setIfInBounds_toArray, List.set_cons_zero, List.set_cons_succ]
  refine wpAnyH_ready (rs := [7]) (by kernel_rfl) (by simp) ?_
  refine AllReadyH.cons rfl (fun K hK => ?_) AllReadyH.nil
  simp only [List.getElem_toArray, List.getElem_cons_succ, List.getElem_cons_zero]
  go_simp
  refine (unhide HW).mono ?_
  rintro e y1 ⟨rfl, h2, hO2⟩
  have d0 : y1.cell? ⟨xb, 1, none⟩ = some (.pointer (some ⟨br, 0, none⟩)) := h2.blk.cell 1
  have B2 := (unhide HB).only hO2 (fun q => q.1 (.inr rfl))
  have d2 : y1.cell? ⟨go, 2, none⟩ = some (.int .i64 i) := B2.cell 2
  have HY := hide (And.intro h2 (And.intro B2 hO2))
  clear h2 hO2 B2
  refine hK.out _ _ ⟨d0, d2⟩ (fun hS => ?_)
  clear hK K
  refine wpAnyH_takeD 8 (some 81) (.bool true) rfl rfl (by kernel_rfl) (by kernel_rfl) (by kernel_rfl) (fun _ _ _ h => h) (Or.inl ⟨by rfl, fun w hSw => by obtain ⟨q0, q1⟩ := hSw; go_simp⟩) hS ?_
  simp only [Act.put, List.setIfInBounds_toArray, List.set_cons_zero, List.set_cons_succ]
  refine wpAnyH_takeD 9 (some 4) (.bool true) rfl rfl (by kernel_rfl) (by kernel_rfl) (by kernel_rfl) (fun _ _ _ h => h) (Or.inl ⟨by rfl, fun w hSw => by obtain ⟨q0, q1⟩ := hSw; go_simp⟩) hS ?_
  simp only [Act.put, List.setIfInBounds_toArray, List.set_cons_zero, List.set_cons_succ]
  refine wpAnyH_done (by kernel_rfl) ?_ _
  have HF := hide (show Sd w0 y1 xb b br s1 s1 #[.pointer (some ⟨b, 0, none⟩), .pointer (some ⟨br, 0, none⟩), .pointer p1, .pointer p2, .pointer p3, .pointer p4] X ∧ Only (fun k => ¬ X k) w y1 from ⟨(unhide HY).1.more (Below.refl _ _) (fun k q => .inl (.inl q)), ((Only.of_below (P := fun k => ¬ X k) ((unhide HBO).drew)).trans ((unhide HO1).mono (fun k _ q r => q.1 (.inl r))) (fun _ _ q => q)).drew.trans ((unhide HY).2.2.mono (fun k _ q r => q.1 (.inl r))) (fun _ _ q => q)⟩)
  clear hS d0 d2 c0 o2 HW HY HB HO1
  go_wp2_with fail
  go_ret
  exact ⟨rfl, unhide HF⟩
set_option maxHeartbeats 4000000 in
theorem stepCr {w0 w : World} {xb b br : Nat} {s : DSt} {p1 p2 p3 p4 : Option Addr} {X : Nat → Prop} (h : Sd w0 w xb b br s s #[.pointer (some ⟨b, 0, none⟩), .pointer (some ⟨br, 0, none⟩), .pointer p1, .pointer p2, .pointer p3, .pointer p4] X) (hS : Sane s) (hC : Coh s) (hp : s.pend.length ≤ 40000000) (ha : s.acts.length ≤ 40000000) (on i : Int) (x : ByteArray) (l1 l2 l3 : Option Addr) (n1 n2 n3 m1 m2 m3 : Nat) (kl : List Int) (hkl : n2 = kl.length) (hkI : ∀ W, Below w0.heap.size w0 W → Ints W l2 kl) (hkn : kl.length ≤ 9223372036854775807) (hk0 : ∀ g o, l2 = some ⟨g, o, none⟩ → 0 < kl.length → g < w0.heap.size) :
    Calls Tryz.prog 8 #[.pointer (some ⟨xb, 0, none⟩), .agg #[.int .i64 4, .int .i64 on, .int .i64 i, .string x, .slice l1 n1 m1, .slice l2 n2 m2, .slice l3 n3 m3]] w fun e w' => e = .returned (.bool true) ∧ Sd w0 w' xb b br (crashS s kl) (crashS s kl) #[.pointer (some ⟨b, 0, none⟩), .pointer (some ⟨br, 0, none⟩), .pointer p1, .pointer p2, .pointer p3, .pointer p4] X ∧ Only (fun k => ¬ X k) w w' := by
  obtain ⟨go, hgo⟩ : ∃ z, w.heap.size = z := ⟨_, rfl⟩
  obtain ⟨x0, hx0⟩ : ∃ z, w.alloc (.cells #[.int .i64 4, .int .i64 on, .int .i64 i, .string x, .slice l1 n1 m1, .slice l2 n2 m2, .slice l3 n3 m3] 41) = z := ⟨_, rfl⟩
  have B0 : Blk x0 go #[.int .i64 4, .int .i64 on, .int .i64 i, .string x, .slice l1 n1 m1, .slice l2 n2 m2, .slice l3 n3 m3] 41 := by rw [← hx0, ← hgo]; exact Blk.new w _ _
  have hb0 : Below w.heap.size w x0 := by rw [← hx0]; exact (Below.refl _ _).alloc (Nat.le_refl _) _
  have h0 : Sd w0 x0 xb b br s s #[.pointer (some ⟨b, 0, none⟩), .pointer (some ⟨br, 0, none⟩), .pointer p1, .pointer p2, .pointer p3, .pointer p4] (fun k => X k ∨ k = go) := h.more hb0 (fun k q => q.imp_right (fun e => by rw [e]; exact ⟨by omega, B0.lt⟩))
  have k0 : x0.cell? ⟨go, 0, none⟩ = some (.int .i64 4) := B0.cell 0
  have HBO := hide hb0
  subst hkl
  have HKL := hide (And.intro hkI (And.intro hkn hk0))
  have hbd0 : Below x0.heap.size x0 x0.drew := (Below.refl _ _).drew
  have h0d := h0.below hbd0
  have B0d := B0.below hbd0 B0.lt
  have HB := hide B0d
  have c0 : x0.drew.cell? ⟨xb, 0, none⟩ = some (.pointer (some ⟨b, 0, none⟩)) := h0d.blk.cell 0
  have o2 : x0.drew.cell? ⟨go, 5, none⟩ = some (.slice l2 kl.length m2) := B0d.cell 5
  have HW1 := hide (h0d.crash hS (by omega) l2 kl m2 (hkI _ h0d.bel) hkn)
  have HP := hide (And.intro hS (And.intro hC (And.intro hp ha)))
  obtain ⟨s1, hs1⟩ : ∃ z, crashS s kl = z := ⟨_, rfl⟩
  obtain ⟨e1, he1⟩ : ∃ z, crashE s kl = z := ⟨_, rfl⟩
  rw [hs1, he1] at HW1
  rw [hs1]
  have HE := hide (And.intro hs1 he1)
  clear h hS hC hp ha B0 hb0 h0 hs1 he1 hbd0 h0d B0d
  go_enter Tryz.func8, Tryz.ntmps8
  go_wp2_with fail
  clear hx0 k0
  refine wp_region_held_drew (S := fun W => W.cell? ⟨xb, 0, none⟩ = some (.pointer (some ⟨b, 0, none⟩)) ∧ W.cell? ⟨go, 5, none⟩ = some (.slice l2 kl.length m2)) (by kernel_rfl) ⟨c0, o2⟩ ?_
  intro hS
  refine wpAnyH_takeD 0 (some 84) (.pointer (some ⟨xb, 0, none⟩)) rfl rfl (by kernel_rfl) (by kernel_rfl) (by kernel_rfl) (fun _ _ _ h => h) (Or.inl ⟨by rfl, fun w hSw => by obtain ⟨q0, q1⟩ := hSw; go_simp⟩) hS ?_
  simp only [Act.put, List.setIfInBounds_toArray, List.set_cons_zero, List.set_cons_succ]
  refine wpAnyH_takeD 1 (some 85) (.pointer (some ⟨xb, 0, none⟩)) rfl rfl (by kernel_rfl) (by kernel_rfl) (by kernel_rfl) (fun _ _ _ h => h) (Or.inl ⟨by rfl, fun w hSw => by obtain ⟨q0, q1⟩ := hSw; go_simp⟩) hS ?_
  simp only [Act.put, List.setIfInBounds_toArray, List.set_cons_zero, List.set_cons_succ]
  refine wpAnyH_takeD 2 (some 86) (.pointer (some ⟨xb, 0, none⟩)) rfl rfl (by kernel_rfl) (by kernel_rfl) (by kernel_rfl) (fun _ _ _ h => h) (Or.inl ⟨by rfl, fun w hSw => by obtain ⟨q0, q1⟩ := hSw; go_simp⟩) hS ?_
  simp only [Act.put, List.setIfInBounds_toArray, List.set_cons_zero, List.set_cons_succ]
  refine wpAnyH_takeD 3 (some 87) (.pointer (some ⟨b, 0, none⟩)) rfl rfl (by kernel_rfl) (by kernel_rfl) (by kernel_rfl) (fun _ _ _ h => h) (Or.inl ⟨by rfl, fun w hSw => by obtain ⟨q0, q1⟩ := hSw; go_simp⟩) hS ?_
  simp only [Act.put, List.setIfInBounds_toArray, List.set_cons_zero, List.set_cons_succ]
  refine wpAnyH_takeD 4 (some 88) (.pointer (some ⟨go, 5, none⟩)) rfl rfl (by kernel_rfl) (by kernel_rfl) (by kernel_rfl) (fun _ _ _ h => h) (Or.inl ⟨by rfl, fun w hSw => by obtain ⟨q0, q1⟩ := hSw; go_simp⟩) hS ?_
  simp only [Act.put, List.setIfInBounds_toArray, List.set_cons_zero, List.set_cons_succ]
  refine wpAnyH_takeD 5 (some 89) (.slice l2 kl.length m2) rfl rfl (by kernel_rfl) (by kernel_rfl) (by kernel_rfl) (fun _ _ _ h => h) (Or.inl ⟨by rfl, fun w hSw => by obtain ⟨q0, q1⟩ := hSw; go_simp⟩) hS ?_
  simp only [Act.put, List.setIfInBounds_toArray, List.set_cons_zero, List.set_cons_succ]
  refine wpAnyH_ready (rs := [6]) (by kernel_rfl) (by simp) ?_
  refine AllReadyH.cons rfl (fun K hK => ?_) AllReadyH.nil
  simp only [List.getElem_toArray, List.getElem_cons_succ, List.getElem_cons_zero]
  go_simp
  refine (unhide HW1).mono ?_
  rintro e y1 ⟨rfl, h2, hO2⟩
  have d0 : y1.cell? ⟨xb, 0, none⟩ = some (.pointer (some ⟨b, 0, none⟩)) := h2.blk.cell 0
  have B2 := (unhide HB).only hO2 (fun q => q.1 (.inr rfl))
  have d2 : y1.cell? ⟨go, 5, none⟩ = some (.slice l2 kl.length m2) := B2.cell 5
  have HY := hide (And.intro h2 (And.intro B2 hO2))
  clear h2 hO2 B2
  refine hK.out _ _ ⟨d0, d2⟩ (fun hS => ?_)
  clear hK K
  refine wpAnyH_takeD 7 (some 9) (.int .i64 e1) rfl rfl (by kernel_rfl) (by kernel_rfl) (by kernel_rfl) (fun _ _ _ h => h) (Or.inl ⟨by rfl, fun w hSw => by obtain ⟨q0, q1⟩ := hSw; go_simp⟩) hS ?_
  simp only [Act.put, List.setIfInBounds_toArray, List.set_cons_zero, List.set_cons_succ]
  refine wpAnyH_done (by kernel_rfl) ?_ _
  clear hS d0 d2 c0 o2 HW1 HB
  obtain ⟨x2, rfl⟩ : ∃ W, W = y1 := ⟨_, rfl⟩
  have hbd : Below x2.heap.size x2 x2.drew := (Below.refl _ _).drew
  have h2 := (unhide HY).1.below hbd
  have B2 := (unhide HY).2.1.below hbd (unhide HY).2.1.lt
  have HO1 := hide (unhide HY).2.2
  clear HY
  have HB := hide B2
  have c0 : x2.drew.cell? ⟨xb, 1, none⟩ = some (.pointer (some ⟨br, 0, none⟩)) := h2.blk.cell 1
  have o2 : x2.drew.cell? ⟨go, 5, none⟩ = some (.slice l2 kl.length m2) := B2.cell 5
  have HW := hide (h2.rcrash (unhide HP).1 (by have q9 := (unhide HP).2.2.1; omega) l2 kl m2 ((unhide HKL).1 _ h2.bel) (unhide HKL).2.1 (unhide HKL).2.2)
  rw [(unhide HE).1, (unhide HE).2] at HW
  have ee : (e1 == e1) = true := by simp
  clear hbd h2 B2
  go_wp2_with fail
  refine wp_region_held_drew (S := fun W => W.cell? ⟨xb, 1, none⟩ = some (.pointer (some ⟨br, 0, none⟩)) ∧ W.cell? ⟨go, 5, none⟩ = some (.slice l2 kl.length m2)) (by kernel_rfl) ⟨c0, o2⟩ ?_
  intro hS
  refine wpAnyH_takeD 0 (some 91) (.int .i64 e1) rfl rfl (by kernel_rfl) (by kernel_rfl) (by kernel_rfl) (fun _ _ _ h => h) (Or.inl ⟨by rfl, fun w hSw => by obtain ⟨q0, q1⟩ := hSw; go_simp⟩) hS ?_
  simp only [Act.put, List.setIfInBounds_toArray, List.set_cons_zero, List.set_cons_succ]
  refine wpAnyH_takeD 1 (some 92) (.pointer (some ⟨xb, 0, none⟩)) rfl rfl (by kernel_rfl) (by kernel_rfl) (by kernel_rfl) (fun _ _ _ h => h) (Or.inl ⟨by rfl, fun w hSw => by obtain ⟨q0, q1⟩ := hSw; go_simp⟩) hS ?_
  simp only [Act.put, List.setIfInBounds_toArray, List.set_cons_zero, List.set_cons_succ]
  refine wpAnyH_takeD 2 (some 93) (.pointer (some ⟨xb, 0, none⟩)) rfl rfl (by kernel_rfl) (by kernel_rfl) (by kernel_rfl) (fun _ _ _ h => h) (Or.inl ⟨by rfl, fun w hSw => by obtain ⟨q0, q1⟩ := hSw; go_simp⟩) hS ?_
  simp only [Act.put, List.setIfInBounds_toArray, List.set_cons_zero, List.set_cons_succ]
  refine wpAnyH_takeD 3 (some 94) (.pointer (some ⟨xb, 1, none⟩)) rfl rfl (by kernel_rfl) (by kernel_rfl) (by kernel_rfl) (fun _ _ _ h => h) (Or.inl ⟨by rfl, fun w hSw => by obtain ⟨q0, q1⟩ := hSw; go_simp⟩) hS ?_
  simp only [Act.put, List.setIfInBounds_toArray, List.set_cons_zero, List.set_cons_succ]
  refine wpAnyH_takeD 4 (some 95) (.pointer (some ⟨br, 0, none⟩)) rfl rfl (by kernel_rfl) (by kernel_rfl) (by kernel_rfl) (fun _ _ _ h => h) (Or.inl ⟨by rfl, fun w hSw => by obtain ⟨q0, q1⟩ := hSw; go_simp⟩) hS ?_
  simp only [Act.put, List.setIfInBounds_toArray, List.set_cons_zero, List.set_cons_succ]
  refine wpAnyH_takeD 5 (some 96) (.pointer (some ⟨go, 5, none⟩)) rfl rfl (by kernel_rfl) (by kernel_rfl) (by kernel_rfl) (fun _ _ _ h => h) (Or.inl ⟨by rfl, fun w hSw => by obtain ⟨q0, q1⟩ := hSw; go_simp⟩) hS ?_
  simp only [Act.put, List.setIfInBounds_toArray, List.set_cons_zero, List.set_cons_succ]
  refine wpAnyH_takeD 6 (some 97) (.slice l2 kl.length m2) rfl rfl (by kernel_rfl) (by kernel_rfl) (by kernel_rfl) (fun _ _ _ h => h) (Or.inl ⟨by rfl, fun w hSw => by obtain ⟨q0, q1⟩ := hSw; go_simp⟩) hS ?_
  simp only [Act.put, List.setIfInBounds_toArray, List.set_cons_zero, List.set_cons_succ]
  refine wpAnyH_ready (rs := [7]) (by kernel_rfl) (by simp) ?_
  refine AllReadyH.cons rfl (fun K hK => ?_) AllReadyH.nil
  simp only [List.getElem_toArray, List.getElem_cons_succ, List.getElem_cons_zero]
  go_simp
  refine (unhide HW).mono ?_
  rintro e y1 ⟨rfl, h2, hO2⟩
  have d0 : y1.cell? ⟨xb, 1, none⟩ = some (.pointer (some ⟨br, 0, none⟩)) := h2.blk.cell 1
  have B2 := (unhide HB).only hO2 (fun q => q.1 (.inr rfl))
  have d2 : y1.cell? ⟨go, 5, none⟩ = some (.slice l2 kl.length m2) := B2.cell 5
  have HY := hide (And.intro h2 (And.intro B2 hO2))
  clear h2 hO2 B2
  refine hK.out _ _ ⟨d0, d2⟩ (fun hS => ?_)
  clear hK K
  refine wpAnyH_takeD 8 (some 99) (.bool true) rfl rfl (by kernel_rfl) (by kernel_rfl) (by kernel_rfl) (fun _ _ _ h => h) (Or.inl ⟨by rfl, fun w hSw => by obtain ⟨q0, q1⟩ := hSw; go_simp⟩) hS ?_
  simp only [Act.put, List.setIfInBounds_toArray, List.set_cons_zero, List.set_cons_succ]
  refine wpAnyH_takeD 9 (some 4) (.bool true) rfl rfl (by kernel_rfl) (by kernel_rfl) (by kernel_rfl) (fun _ _ _ h => h) (Or.inl ⟨by rfl, fun w hSw => by obtain ⟨q0, q1⟩ := hSw; go_simp⟩) hS ?_
  simp only [Act.put, List.setIfInBounds_toArray, List.set_cons_zero, List.set_cons_succ]
  refine wpAnyH_done (by kernel_rfl) ?_ _
  have HF := hide (show Sd w0 y1 xb b br s1 s1 #[.pointer (some ⟨b, 0, none⟩), .pointer (some ⟨br, 0, none⟩), .pointer p1, .pointer p2, .pointer p3, .pointer p4] X ∧ Only (fun k => ¬ X k) w y1 from ⟨(unhide HY).1.more (Below.refl _ _) (fun k q => .inl (.inl q)), ((Only.of_below (P := fun k => ¬ X k) ((unhide HBO).drew)).trans ((unhide HO1).mono (fun k _ q r => q.1 (.inl r))) (fun _ _ q => q)).drew.trans ((unhide HY).2.2.mono (fun k _ q r => q.1 (.inl r))) (fun _ _ q => q)⟩)
  clear hS d0 d2 c0 o2 HW HY HB HO1
  go_wp2_with fail
  go_ret
  exact ⟨rfl, unhide HF⟩
end Go.Proofs.YtffiaogbphgmgaaGreatDoor
