import Derived.Test.YtaedoagcbkgmbaaFil
namespace Go.Proofs.Ytaedoagcbkgmbaa
open Go.RowKit
theorem Strs.own {w : World} {base : Nat} {v : Value} {l : List ByteArray} (h : w.ownsRow base 9 1 v l.length (strs l)) : ∃ p c, v = .slice p l.length c ∧ Strs w p l := by
  rcases h.2 with ⟨h1, h2⟩ | ⟨g, cap, cur, h1, hb, hg, _⟩
  · refine ⟨none, 0, by rw [h1, h2], fun j hj => ?_⟩
    omega
  · refine ⟨some ⟨g, 0, none⟩, cap, h1, fun j hj => ⟨g, 0, rfl, Blk.lt hg, ?_⟩⟩
    rw [Nat.zero_add, (own_at h (by rw [h1]; rfl) j hj).1]
    exact strs_at _ _ hj
def StrsB (B : Nat) (w : World) (p : Option Addr) (l : List ByteArray) : Prop := ∀ j, j < l.length → ∃ g o, p = some ⟨g, o, none⟩ ∧ B ≤ g ∧ g < w.heap.size ∧ w.cell? ⟨g, o + j, none⟩ = some (.string (l.getD j ByteArray.empty))
theorem Strs.ownB {w : World} {base : Nat} {v : Value} {l : List ByteArray} (h : w.ownsRow base 9 1 v l.length (strs l)) : ∃ p c, v = .slice p l.length c ∧ StrsB base w p l := by
  rcases h.2 with ⟨h1, h2⟩ | ⟨g, cap, cur, h1, hb, hg, _⟩
  · refine ⟨none, 0, by rw [h1, h2], fun j hj => ?_⟩
    omega
  · refine ⟨some ⟨g, 0, none⟩, cap, h1, fun j hj => ⟨g, 0, rfl, hb, Blk.lt hg, ?_⟩⟩
    rw [Nat.zero_add, (own_at h (by rw [h1]; rfl) j hj).1]
    exact strs_at _ _ hj
theorem Strs.below {w w' : World} {p : Option Addr} {l : List ByteArray} (h : Strs w p l) (hb : Below w.heap.size w w') : Strs w' p l := fun j hj => by
  obtain ⟨g, o, h1, h2, h3⟩ := h j hj
  exact ⟨g, o, h1, Nat.lt_of_lt_of_le h2 hb.size, (hb.cell (p := ⟨g, o + j, none⟩) h2).trans h3⟩
set_option maxRecDepth 100000 in
set_option maxHeartbeats 2000000 in
theorem same_any (w : World) (p q : Option Addr) (c d : Nat) (l : List ByteArray) (hp : Strs w p l) (hq : Strs w q l) (hl : l.length ≤ 1000000) :
    Calls Try.prog 21 #[.slice p l.length c, .slice q l.length d] w fun e w' => e = .returned (.bool true) ∧ Below w.heap.size w w' := by
  have HP := hide hp
  have HQ := hide hq
  clear hp hq
  go_enter Try.func21, Try.ntmps21
  go_wp2
  go_loopw [5] (fun i wr => ∃ k : Nat, k ≤ l.length ∧ i = .int .i64 (k : Int) ∧ Below w.heap.size w wr) (fun i _ => l.length - (intOf i).toNat)
  case atStart => exact ⟨0, by omega, rfl, Below.refl _ _⟩
  case round =>
    obtain ⟨k, hk, rfl, hb⟩ := hrel
    have XB := hide hb
    clear hb
    by_cases hkl : k < l.length
    · obtain ⟨g1, o1, rfl, hg1, hc1⟩ := unhide HP k hkl
      obtain ⟨g2, o2, rfl, hg2, hc2⟩ := unhide HQ k hkl
      have d1 : wr.cell? ⟨g1, o1 + k, none⟩ = some (.string (l.getD k ByteArray.empty)) := by rw [(unhide XB).cell (p := ⟨g1, o1 + k, none⟩) hg1]; exact hc1
      have d2 : wr.cell? ⟨g2, o2 + k, none⟩ = some (.string (l.getD k ByteArray.empty)) := by rw [(unhide XB).cell (p := ⟨g2, o2 + k, none⟩) hg2]; exact hc2
      generalize l.getD k ByteArray.empty = t at *
      clear hc1 hc2
      have i0 : 0 ≤ (k : Int) := by omega
      have i1 : (k : Int) < (l.length : Int) := by omega
      go_wp2_with fail
      go_quiet (fail)
      go_wp2
      go_roundw
      case rel => exact ⟨k + 1, by omega, by go_num, below_drewN (unhide XB) _⟩
      case measure => simp [intOf]; omega
    · clear HP HQ
      go_wp2
      go_ret
      exact ⟨rfl, unhide XB⟩
theorem readB {s : DSt} (h : s.dead = false) (j : Nat) (hj : j < s.last.length) : readE s (j : Int) = 0 ∧ readT s (j : Int) = s.now.getD j ByteArray.empty := by
  have hi : isOk s (j : Int) := ⟨by omega, by omega⟩
  have hd : ¬ s.dead = true := by rw [h]; decide
  rw [readE, readT, if_pos hi, if_pos hi, if_neg hd, if_neg hd, Int.toNat_natCast]
  exact ⟨rfl, rfl⟩
theorem infoS2 : (Try.prog.info? 9).map (fun i => (i.zero, i.size, i.bytes)) = some (some (.string ⟨#[]⟩), 1, 16) := by kernel_rfl
def AlI (w : World) (l : List ByteArray) (k : Nat) (u : Value) (wr : World) : Prop := wr.ownsRow w.heap.size 9 1 u k (strs (l.take k)) ∧ Below w.heap.size w wr
theorem wpList_appAl (W : World) {ops : Array Oper} {rest : List Oper} {o : Oper} {a : Act} {Q : Exit → Act → World → Prop}
    (hg : o.guard = none) (s x : Operand) (hop : o.op = Op.call { callee := Callee.builtin Builtin.append, args := #[s, x], argTypes := #[39, 39] })
    {w : World} {l : List ByteArray} {k : Nat} {u : Value} (hP : AlI w l k u W) (hs : a.eval s = u) (hk : k < l.length)
    (g : Nat) (hx : a.eval x = .slice (some ⟨g, 0, none⟩) 1 1) (hc : W.cell? ⟨g, 0, none⟩ = some (.string (l.getD k ByteArray.empty))) (hsz : k < 100000)
    (h : ∀ v' W', AlI w l (k + 1) v' W' → wpList Try.prog ops Q rest (a.put o.dst v') W') : wpList Try.prog ops Q (o :: rest) a W := by
  obtain ⟨i0, hi, hz0, hz1, hz2⟩ := info_parts infoS2
  refine wpList_append_own W hg s x 39 hop w.heap.size 9 i0 (.string ⟨#[]⟩) 1 16 Try.underlying39 hi hz0 hz1 hz2 rfl (by decide) u k (strs (l.take k)) hs hP.1 ⟨g, 0, none⟩ 1 1 [.string (l.getD k ByteArray.empty)] hx rfl (fun q u hu => ?_) (by simp [Value.oneCell']) (by unfold maxLen; omega) (by omega) hP.2.size (fun v' W' ho hgr _ => ?_)
  · cases q with
    | zero => simp at hu; subst hu; rw [Addr.add_mid]; simpa using hc
    | succ q => simp at hu
  · refine h v' W' ⟨?_, hP.2.grown hgr hP.2.size (fun q hq => (hP.1.lt q hq).1)⟩
    have e : strs (l.take (k + 1)) = strs (l.take k) ++ [.string (l.getD k ByteArray.empty)] := by
      rw [List.take_succ_eq_append_getElem hk, show l.getD k ByteArray.empty = l[k] by simp [hk]]
      simp only [strs, List.map_append, List.map_cons, List.map_nil]
    rw [e]
    exact ho
set_option maxRecDepth 100000 in
set_option maxHeartbeats 2000000 in
theorem all_new (w : World) (base b : Nat) (v : DV) (s : DSt) (h : Dk w base b v s) (hS : Sane s) (hd : s.dead = false) :
    Calls Try.prog 19 #[.pointer (some ⟨b, 0, none⟩)] w fun e w' => ∃ p c, e = .returned (.slice p s.now.length c) ∧ StrsB w.heap.size w' p s.now ∧ Below w.heap.size w w' := by
  have hne : s.last.length = s.now.length := hS.same.symm
  have hpos : 0 < s.now.length := by have := hS.pos; omega
  have hcap : s.now.length ≤ 1024 := by have := hS.cap; omega
  have H := hide h
  have HS := hide hS
  have HD := hide hd
  clear h hS hd
  go_enter Try.func19, Try.ntmps19
  go_wp2
  go_loopw [3, 4] (fun u i wr => ∃ k : Nat, k ≤ s.now.length ∧ i = .int .i64 (k : Int) ∧ AlI w s.now k u wr) (fun _ i _ => s.now.length - (intOf i).toNat)
  case atStart => exact ⟨0, by omega, rfl, by simpa [strs] using World.ownsRow_nil _ _ _ _, Below.refl _ _⟩
  case round =>
    obtain ⟨k, hk, rfl, hI⟩ := hrel
    obtain ⟨u, rfl⟩ : ∃ u, u = u3 := ⟨_, rfl⟩
    have XI := hide hI
    have XD := hide ((unhide H).below hI.2)
    clear hI
    by_cases hkl : k < s.now.length
    · obtain ⟨r1, r2⟩ := readB (s := s) (unhide HD) k (by omega)
      have HR := hide (And.intro r1 r2)
      clear r1 r2
      go_wp2_with fail
      refine (size_any _ base b v s (unhide XD)).mono ?_
      rintro ev y1 ⟨rfl, rfl⟩
      rw [hne]
      go_wp2_with fail
      refine (read_any _ base b v s (unhide XD) (unhide HS).same (k : Int)).mono ?_
      rintro ev y2 ⟨rfl, rfl⟩
      rw [(unhide HR).1, (unhide HR).2]
      clear HR
      generalize hT : s.now.getD k ByteArray.empty = T at *
      have HT := hide hT
      clear hT
      go_wp2_with (at_builtin; refine wpList_appAl _ rfl _ _ rfl (show AlI w s.now k u _ from ⟨(unhide XI).1.alloc _, (unhide XI).2.alloc (unhide XI).2.size _⟩) rfl hkl y2.heap.size rfl (by rw [unhide HT]; simp) (by omega) ?_; intro v' x6 hI6; have X6 := hide hI6; clear hI6)
      go_roundw
      case rel => exact ⟨k + 1, by omega, by go_num, unhide X6⟩
      case measure => simp [intOf]; omega
    · have hk' : k = s.now.length := by omega
      subst hk'
      obtain ⟨p, c, rfl, hst⟩ : ∃ p c, u = .slice p s.now.length c ∧ StrsB w.heap.size wr p s.now := Strs.ownB (by have := (unhide XI).1; rw [List.take_length] at this; exact this)
      have HST := hide hst
      clear hst
      go_wp2_with fail
      refine (size_any _ base b v s (unhide XD)).mono ?_
      rintro ev y1 ⟨rfl, rfl⟩
      rw [hne]
      go_wp2
      go_ret
      exact ⟨p, c, rfl, unhide HST, (unhide XI).2⟩
theorem Dk.base {w : World} {B B' b : Nat} {v : DV} {s : DSt} (h : Dk w B b v s) (hb : B' ≤ B) : Dk w B' b v s :=
  ⟨h.blk, owns_base h.rl hb, owns_base h.rn hb, owns_base h.rp hb, owns_base h.ra hb, h.ne, Nat.le_trans hb h.lo⟩
theorem imageD {w0 w : World} {b : Nat} {s : DSt} (h : DI w0 w b s) :
    Calls Try.prog 20 #[.pointer (some ⟨b, 0, none⟩)] w fun e w' => ∃ p c, e = .returned (.slice p s.last.length c) ∧ Strs w' p s.last ∧ DI w0 w' b s ∧ Below w.heap.size w w' := by
  have h' := h
  obtain ⟨v, h1, h2, h3⟩ := h
  refine (image_any w _ b v s h1 h3.pos h3.cap).mono ?_
  rintro ev w' ⟨v', rfl, k1, k2⟩
  obtain ⟨p, c, rfl, k3⟩ := Strs.own k1
  exact ⟨p, c, rfl, k3, h'.below k2, k2⟩
theorem loadD (p : Option Addr) (c : Nat) (l : List ByteArray) (w : World) (h : Strs w p l) (h1 : 128 ≤ l.length) (h2 : l.length ≤ 1024) (h3 : ∀ t ∈ l, t.size = 256) :
    Calls Try.prog 22 #[.slice p l.length c] w fun e w' => ∃ b, e = .returned (.tuple #[.pointer (some ⟨b, 0, none⟩), .int .i64 0]) ∧ DI w w' b (freshS l) := by
  refine (load_any p c l w h).mono ?_
  intro e w' hp
  rw [LoadPost, if_pos ⟨h1, h2⟩, if_pos h3] at hp
  obtain ⟨b, v, k1, k2, k3⟩ := hp
  exact ⟨b, k1, v, k2, k3, Sane.fresh _ (by omega) h2⟩
end Go.Proofs.Ytaedoagcbkgmbaa
