import Derived.Test.YtaedoagcbkgmbaaBlk
namespace Go.Proofs.Ytaedoagcbkgmbaa
open Go.RowKit
/-- What a disk is: its sectors as they last, as they were written last; the pending writes; the acts (kind, sector); its fuse; is it dead. -/
structure DSt where
  last : List ByteArray
  now : List ByteArray
  pend : List (Nat × ByteArray)
  acts : List (Nat × Nat)
  fuse : Int
  dead : Bool
def strs (l : List ByteArray) : List Value := l.map Value.string
def wrs : List (Nat × ByteArray) → List Value
  | [] => []
  | p :: r => .int .i64 (p.1 : Int) :: .string p.2 :: wrs r
def acs : List (Nat × Nat) → List Value
  | [] => []
  | p :: r => .int .u8 (p.1 : Int) :: .int .u16 (p.2 : Int) :: acs r
/-- The rows of a disk. -/
structure DV where
  l : Value
  n : Value
  p : Value
  a : Value
/-- At block b lies a disk with the rows v, which is s. -/
structure Dk (w : World) (base b : Nat) (v : DV) (s : DSt) : Prop where
  blk : Blk w b #[v.l, v.n, v.p, v.a, .int .i64 s.fuse, .bool s.dead] 45
  rl : w.ownsRow base 9 1 v.l s.last.length (strs s.last)
  rn : w.ownsRow base 9 1 v.n s.now.length (strs s.now)
  rp : w.ownsRow base 102 2 v.p s.pend.length (wrs s.pend)
  ra : w.ownsRow base 82 2 v.a s.acts.length (acs s.acts)
  ne : ∀ k, v.l.ownBlock = some k → v.n.ownBlock ≠ some k
  lo : base ≤ b
/-- The blocks of a disk. -/
def Fd (b : Nat) (v : DV) (k : Nat) : Prop := k = b ∨ v.l.ownBlock = some k ∨ v.n.ownBlock = some k ∨ v.p.ownBlock = some k ∨ v.a.ownBlock = some k
/-- Behind a call of the disk at b, whose rows were v: it is s now. -/
def DPost (base b : Nat) (v : DV) (s : DSt) (w w' : World) : Prop :=
  ∃ v', Dk w' base b v' s ∧ Only (Fd b v) w w' ∧ ∀ k, Fd b v' k → Fd b v k ∨ w.heap.size ≤ k
theorem Dk.only {w w' : World} {base b : Nat} {v : DV} {s : DSt} {P : Nat → Prop} (h : Dk w base b v s) (ho : Only P w w') (hp : ∀ k, Fd b v k → ¬ P k) : Dk w' base b v s :=
  ⟨h.blk.only ho (hp b (.inl rfl)), owns_only h.rl ho (fun k hk => hp k (.inr (.inl hk))), owns_only h.rn ho (fun k hk => hp k (.inr (.inr (.inl hk)))), owns_only h.rp ho (fun k hk => hp k (.inr (.inr (.inr (.inl hk))))), owns_only h.ra ho (fun k hk => hp k (.inr (.inr (.inr (.inr hk))))), h.ne, h.lo⟩
theorem Dk.below {w w' : World} {base b : Nat} {v : DV} {s : DSt} (h : Dk w base b v s) (hb : Below w.heap.size w w') : Dk w' base b v s := h.only (Only.of_below (P := fun _ => False) hb) (fun _ _ q => q)
theorem DPost.refl {w : World} {base b : Nat} {v : DV} {s : DSt} (h : Dk w base b v s) : DPost base b v s w w := ⟨v, h, Only.refl _ _, fun _ hk => .inl hk⟩
theorem row_form {w : World} {base n : Nat} {e : TypeId} {k : Nat} {v : Value} {xs : List Value} (h : w.ownsRow base e k v n xs) : ∃ p cap, v = .slice p n cap ∧ n ≤ cap := by
  rcases h.2 with ⟨h1, h2⟩ | ⟨g, cap, cur, h1, _, _, h3, _⟩
  · exact ⟨none, 0, by rw [h1, h2], by omega⟩
  · exact ⟨_, cap, h1, h3⟩
theorem strs_len (l : List ByteArray) : (strs l).length = l.length := by simp [strs]
theorem wrs_len : ∀ l : List (Nat × ByteArray), (wrs l).length = l.length * 2
  | [] => rfl
  | _ :: r => by simp [wrs, wrs_len r]; omega
theorem acs_len : ∀ l : List (Nat × Nat), (acs l).length = l.length * 2
  | [] => rfl
  | _ :: r => by simp [acs, acs_len r]; omega
theorem wrs_app : ∀ l m : List (Nat × ByteArray), wrs (l ++ m) = wrs l ++ wrs m
  | [], m => rfl
  | p :: r, m => by simp [wrs, wrs_app r m]
theorem acs_app : ∀ l m : List (Nat × Nat), acs (l ++ m) = acs l ++ acs m
  | [], m => rfl
  | p :: r, m => by simp [acs, acs_app r m]
set_option maxRecDepth 100000 in
set_option maxHeartbeats 1000000 in
theorem pending_any (w : World) (base b : Nat) (v : DV) (s : DSt) (h : Dk w base b v s) :
    Calls Try.prog 18 #[.pointer (some ⟨b, 0, none⟩)] w fun e w' => e = .returned (.int .i64 (s.pend.length : Int)) ∧ w' = w := by
  obtain ⟨p, cap, e, hc⟩ := row_form h.rp
  have c2 : w.cell? ⟨b, 2, none⟩ = some (.slice p s.pend.length cap) := by rw [h.blk.cell 2, ← e]; rfl
  clear h
  go_enter Try.func18, Try.ntmps18
  go_wp2
  go_ret
  exact ⟨rfl, rfl⟩
set_option maxRecDepth 100000 in
set_option maxHeartbeats 1000000 in
theorem size_any (w : World) (base b : Nat) (v : DV) (s : DSt) (h : Dk w base b v s) :
    Calls Try.prog 23 #[.pointer (some ⟨b, 0, none⟩)] w fun e w' => e = .returned (.int .i64 (s.last.length : Int)) ∧ w' = w := by
  obtain ⟨p, cap, e, hc⟩ := row_form h.rl
  have c2 : w.cell? ⟨b, 0, none⟩ = some (.slice p s.last.length cap) := by rw [h.blk.cell 0, ← e]; rfl
  clear h
  go_enter Try.func23, Try.ntmps23
  go_wp2
  go_ret
  exact ⟨rfl, rfl⟩
set_option maxRecDepth 100000 in
set_option maxHeartbeats 1000000 in
theorem dead_any (w : World) (base b : Nat) (v : DV) (s : DSt) (h : Dk w base b v s) :
    Calls Try.prog 15 #[.pointer (some ⟨b, 0, none⟩)] w fun e w' => e = .returned (.bool s.dead) ∧ w' = w := by
  have c2 : w.cell? ⟨b, 5, none⟩ = some (.bool s.dead) := by rw [h.blk.cell 5]; rfl
  clear h
  go_enter Try.func15, Try.ntmps15
  go_wp2
  go_ret
  exact ⟨rfl, rfl⟩
set_option maxRecDepth 100000 in
set_option maxHeartbeats 1000000 in
theorem has_any (w : World) (base b : Nat) (v : DV) (s : DSt) (h : Dk w base b v s) (i : Int) :
    Calls Try.prog 37 #[.pointer (some ⟨b, 0, none⟩), .int .i64 i] w fun e w' => e = .returned (.bool (decide (0 ≤ i ∧ i < (s.last.length : Int)))) ∧ w' = w := by
  have H := hide h
  clear h
  by_cases h0 : 0 ≤ i
  · go_enter Try.func37, Try.ntmps37
    go_wp2_with fail
    refine (size_any w base b v s (unhide H)).mono ?_
    rintro ev x1 ⟨rfl, rfl⟩
    go_wp2
    go_ret
    exact ⟨by simp [h0], rfl⟩
  · go_enter Try.func37, Try.ntmps37
    go_wp2
    go_ret
    exact ⟨by simp; omega, rfl⟩
set_option maxRecDepth 100000 in
set_option maxHeartbeats 1000000 in
theorem isSector_any (t : ByteArray) (w : World) :
    Calls Try.prog 38 #[.string t] w fun e w' => e = .returned (.bool (decide (t.size = 256))) ∧ w' = w := by
  go_enter Try.func38, Try.ntmps38
  go_wp2
  go_ret
  refine ⟨?_, rfl⟩
  by_cases h : t.size = 256
  · simp [h]
  · have : ¬ ((t.size : Int) = 256) := by omega
    simp [h, this]
set_option maxRecDepth 100000 in
set_option maxHeartbeats 1000000 in
theorem isSize_any (n : Int) (w : World) :
    Calls Try.prog 43 #[.int .i64 n] w fun e w' => e = .returned (.bool (decide (128 ≤ n ∧ n ≤ 1024))) ∧ w' = w := by
  by_cases h0 : 128 ≤ n
  · go_enter Try.func43, Try.ntmps43
    go_wp2
    go_ret
    exact ⟨by simp [h0], rfl⟩
  · go_enter Try.func43, Try.ntmps43
    go_wp2
    go_ret
    exact ⟨by simp; omega, rfl⟩
end Go.Proofs.Ytaedoagcbkgmbaa
