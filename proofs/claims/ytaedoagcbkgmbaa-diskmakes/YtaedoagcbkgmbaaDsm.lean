import Derived.Test.YtaedoagcbkgmbaaDsn
namespace Go.Proofs.Ytaedoagcbkgmbaa
open Go.RowKit
theorem own_row (w : World) (base g : Nat) (l : List ByteArray) (h : Blk w g (strs l).toArray 9) (hb : base ≤ g) (hl : l.length ≤ 1000000) : w.ownsRow base 9 1 (.slice (some ⟨g, 0, none⟩) l.length l.length) l.length (strs l) :=
  ⟨by simp [strs_len], .inr ⟨g, l.length, _, rfl, hb, h, Nat.le_refl _, by unfold maxLen; omega, by simp [strs_len], by rw [Nat.mul_one]; exact List.take_of_length_le (by simp [strs_len])⟩⟩
theorem clone_any (w : World) (base : Nat) (v : Value) (l : List ByteArray) (h : w.ownsRow base 9 1 v l.length (strs l)) (hl : 0 < l.length) (hl2 : l.length ≤ 1000000) :
    Calls Try.prog 42 #[v] w fun e w' => ∃ v', e = .returned v' ∧ w'.ownsRow w.heap.size 9 1 v' l.length (strs l) ∧ Below w.heap.size w w' := by
  obtain ⟨g, cap, rfl, _, _⟩ := h.form hl
  refine (Try.slices_Clone_string g 0 l.length cap l w (Nat.le_refl _) (by omega) (fun j hj => by
    rw [Nat.zero_add, (own_at h rfl j hj).1]
    exact strs_at _ _ hj)).mono ?_
  rintro e w' ⟨v', h1, h2, _, h3⟩
  exact ⟨v', h1, by rw [List.take_length] at h2; exact h2, h3⟩
set_option maxRecDepth 100000 in
set_option maxHeartbeats 1000000 in
theorem image_any (w : World) (base b : Nat) (v : DV) (s : DSt) (h : Dk w base b v s) (hl : 0 < s.last.length) (hl2 : s.last.length ≤ 1024) :
    Calls Try.prog 20 #[.pointer (some ⟨b, 0, none⟩)] w fun e w' => ∃ v', e = .returned v' ∧ w'.ownsRow w.heap.size 9 1 v' s.last.length (strs s.last) ∧ Below w.heap.size w w' := by
  obtain ⟨g, cap, e, _⟩ := h.rl.form hl
  have c0 : w.cell? ⟨b, 0, none⟩ = some (.slice (some ⟨g, 0, none⟩) s.last.length cap) := by rw [h.blk.cell 0, ← e]; rfl
  have HR := hide (show w.ownsRow base 9 1 (.slice (some ⟨g, 0, none⟩) s.last.length cap) s.last.length (strs s.last) by rw [← e]; exact h.rl)
  clear h e
  go_enter Try.func20, Try.ntmps20
  go_wp2_with fail
  refine (clone_any w base _ s.last (unhide HR) hl (by omega)).mono ?_
  rintro ev x1 ⟨v', rfl, hr, hb⟩
  obtain ⟨g1, cap1, rfl, _⟩ := hr.form hl
  have H1 := hide hr
  have H2 := hide hb
  clear hr hb
  go_wp2
  go_ret
  exact ⟨_, rfl, unhide H1, unhide H2⟩
theorem load_blk {W : World} {b : Nat} {cur : Array Value} {T : TypeId} (ty : TypeId) (d : TypeDesc) (h : Blk W b cur T) (hu : Try.prog.underlying ty = some d) (hd : d.isRow = true) (hi : (Try.prog.info? ty).map (·.size) = some cur.size) : (loadVar ty ⟨b, 0, none⟩).run Try.prog W = .ok (.agg cur) W := by
  have := run_loadVar_mid (P := Try.prog) W b 0 ty cur.toList d (fun j v hv => by rw [Nat.zero_add, h.cell j]; simpa using hv) hu hd (by simpa using hi)
  simpa using this
set_option maxRecDepth 100000 in
set_option maxHeartbeats 1000000 in
theorem holding_any (w : World) (g : Nat) (l : List ByteArray) (h : Blk w g (strs l).toArray 9) (hl : 0 < l.length) (hl2 : l.length ≤ 1024) :
    Calls Try.prog 44 #[.slice (some ⟨g, 0, none⟩) l.length l.length] w fun e w' => ∃ g1 cap1, e = .returned (.agg #[.slice (some ⟨g, 0, none⟩) l.length l.length, .slice (some ⟨g1, 0, none⟩) l.length cap1, .slice none 0 0]) ∧ w'.ownsRow w.heap.size 9 1 (.slice (some ⟨g1, 0, none⟩) l.length cap1) l.length (strs l) ∧ Below w.heap.size w w' := by
  have HR := hide (own_row w 0 g l h (Nat.zero_le _) (by omega))
  clear h
  go_enter Try.func44, Try.ntmps44
  go_wp2_with fail
  refine (clone_any (w.alloc (Obj.cells #[Value.slice none 0 0, Value.slice none 0 0, Value.slice none 0 0] 42)) 0 _ l ((unhide HR).alloc _) hl (by omega)).mono ?_
  rintro ev x1 ⟨v', rfl, hr, hb⟩
  have hx : x1.heap[w.heap.size]? = some (.cells #[Value.slice none 0 0, Value.slice none 0 0, Value.slice none 0 0] 42 (0, 0)) := (hb.block w.heap.size (by simp)).trans (Blk.new w 42 #[Value.slice none 0 0, Value.slice none 0 0, Value.slice none 0 0])
  obtain ⟨g1, cap1, rfl, hg1, _⟩ := hr.form hl
  have q0 : x1.cell? ⟨w.heap.size, 0, none⟩ = some (.slice none 0 0) := Blk.cell hx 0
  have q1 : x1.cell? ⟨w.heap.size, 1, none⟩ = some (.slice none 0 0) := Blk.cell hx 1
  have q2 : x1.cell? ⟨w.heap.size, 2, none⟩ = some (.slice none 0 0) := Blk.cell hx 2
  have p0 : x1.frozen? ⟨w.heap.size, 0, none⟩ = false := Blk.frozen hx 0
  have p1 : x1.frozen? ⟨w.heap.size, 1, none⟩ = false := Blk.frozen hx 1
  have p2 : x1.frozen? ⟨w.heap.size, 2, none⟩ = false := Blk.frozen hx 2
  have H1 := hide hr
  have H2 := hide hb
  have H3 := hide hx
  clear hr hb hx
  go_wp2
  have B3 := ((Blk.set (unhide H3) 0 (.slice (some ⟨g, 0, none⟩) l.length l.length)).set 1 (.slice (some ⟨g1, 0, none⟩) l.length cap1)).set 2 (.slice none 0 0)
  have hld := load_blk 42 _ B3 Try.underlying42 rfl (by kernel_rfl)
  refine bodyPost_ret (v := .agg #[.slice (some ⟨g, 0, none⟩) l.length l.length, .slice (some ⟨g1, 0, none⟩) l.length cap1, .slice none 0 0]) ?_ rfl ⟨g1, cap1, rfl, ?_, ?_⟩
  · exact results_cell rfl _ _ _ ⟨w.heap.size, 0, none⟩ rfl _ hld
  · have hne : (Value.slice (some ⟨g1, 0, none⟩) l.length cap1).ownBlock ≠ some w.heap.size := by
      simp [Value.ownBlock]
      simp at hg1
      omega
    exact owns_base (owns_setO (owns_setO (owns_setO (unhide H1) _ _ hne) _ _ hne) _ _ hne) (by simp)
  · exact ((((Below.refl _ w).alloc (Nat.le_refl _) _).trans ((unhide H2).mono (by simp))).setCell (Nat.le_refl _) _ |>.setCell (Nat.le_refl _) _ |>.setCell (Nat.le_refl _) _)
def freshS (l : List ByteArray) : DSt := ⟨l, l, [], [], 0, false⟩
def zero256 : ByteArray := ⟨(List.replicate 256 0).toArray⟩
theorem rep_zero : (⟨(Lib.repeatL (ByteArray.mk #[0]).data.toList 256).toArray⟩ : ByteArray) = zero256 := by
  have h : Lib.repeatL (ByteArray.mk #[0]).data.toList 256 = List.replicate 256 0 := by
    have := Lib.repeatL_replicate 0 1 256
    rw [Nat.mul_one] at this
    exact this
  rw [h, zero256]
def NewPost (n : Int) (w : World) (e : Ending) (w' : World) : Prop :=
  if 128 ≤ n ∧ n ≤ 1024 then ∃ b v, e = .returned (.tuple #[.pointer (some ⟨b, 0, none⟩), .int .i64 0]) ∧ Dk w' w.heap.size b v (freshS (List.replicate n.toNat zero256)) ∧ Below w.heap.size w w'
  else e = .returned (.tuple #[.pointer none, .int .i64 40]) ∧ w' = w
set_option maxRecDepth 100000 in
set_option maxHeartbeats 1000000 in
theorem new_any (n : Int) (w : World) : Calls Try.prog 32 #[.int .i64 n] w (NewPost n w) := by
  by_cases hn : 128 ≤ n ∧ n ≤ 1024
  · have e : decide (128 ≤ n ∧ n ≤ 1024) = true := by simpa using hn
    obtain ⟨m, rfl⟩ := Int.eq_ofNat_of_zero_le (show 0 ≤ n by omega)
    have hm1 : 128 ≤ m := by omega
    have hm2 : m ≤ 1024 := by omega
    have HN := hide hn
    clear hn
    go_enter Try.func32, Try.ntmps32
    go_wp2_with fail
    refine (isSize_any _ _).mono ?_
    rintro ev x1 ⟨rfl, rfl⟩
    rw [e]
    clear e
    go_wp2_with fail
    have hrep := Try.strings_Repeat ⟨#[0]⟩ 256 x1 (by decide) (by decide)
    rw [rep_zero] at hrep
    refine hrep.mono ?_
    rintro ev x2 ⟨rfl, hb2⟩
    generalize hZ : zero256 = Z at *
    have HZ := hide hZ
    clear hZ
    have HB2 := hide hb2
    have hs2 := hb2.size
    clear hb2 hrep
    go_wp2_with fail
    refine (srepeat_any Z m (by omega) hm2 _ x2.heap.size (by simp) (by simp)).mono ?_
    rintro ev x3 ⟨rfl, hk3, hb3⟩
    obtain ⟨L, hL⟩ : ∃ L, L = List.replicate m Z := ⟨_, rfl⟩
    have hLm : L.length = m := by rw [hL]; simp
    rw [← hL] at hk3
    have HL := hide hL
    have hg : (x2.alloc (Obj.cells #[Value.string Z] 9)).heap.size = x2.heap.size + 1 := by simp
    rw [hg] at hk3 hb3 ⊢
    have HK3 := hide hk3
    have HB3 := hide (show Below x1.heap.size x1 x3 from ((unhide HB2).alloc hs2 _).trans (hb3.mono (by omega)))
    have hs3 := hb3.size
    rw [hg] at hs3
    clear hL hk3 hb3 hg HB2
    subst hLm
    go_wp2_with fail
    refine (holding_any _ _ L (unhide HK3) (by omega) hm2).mono ?_
    rintro ev x4 ⟨g1, cap1, rfl, hr4, hb4⟩
    have hk4 := (unhide HK3).below hb4 (unhide HK3).lt
    have D := hide (show Dk (x4.alloc (Obj.cells #[.slice (some ⟨x2.heap.size + 1, 0, none⟩) L.length L.length, .slice (some ⟨g1, 0, none⟩) L.length cap1, .slice none 0 0, .slice none 0 0, .int .i64 0, .bool false] 45)) x1.heap.size x4.heap.size ⟨.slice (some ⟨x2.heap.size + 1, 0, none⟩) L.length L.length, .slice (some ⟨g1, 0, none⟩) L.length cap1, .slice none 0 0, .slice none 0 0⟩ (freshS L) from by
      have hg1 := (hr4.lt g1 rfl).1
      have hlt := (unhide HK3).lt
      refine ⟨Blk.new _ _ _, (own_row x4 x1.heap.size _ L hk4 (by omega) (by omega)).alloc _, (owns_base hr4 (by omega)).alloc _, World.ownsRow_nil _ _ _ _, World.ownsRow_nil _ _ _ _, fun k hk1 hk2 => ?_, ?_⟩
      · simp [Value.ownBlock] at hk1 hk2
        omega
      · have := hb4.size
        omega)
    have HB4 := hide ((unhide HB3).trans (hb4.mono (unhide HB3).size))
    clear hr4 hb4 hk4 HK3 HB3
    go_wp2
    go_ret2
    rw [NewPost, if_pos (unhide HN)]
    have D2 := unhide D
    have e2 : freshS L = freshS (List.replicate (L.length : Int).toNat zero256) := by
      rw [Int.toNat_natCast, unhide HZ, ← unhide HL]
    rw [e2] at D2
    exact ⟨_, _, rfl, D2, (unhide HB4).alloc (unhide HB4).size _⟩
  · have e : decide (128 ≤ n ∧ n ≤ 1024) = false := by simpa using hn
    have HN := hide hn
    clear hn
    go_enter Try.func32, Try.ntmps32
    go_wp2_with fail
    refine (isSize_any _ _).mono ?_
    rintro ev x1 ⟨rfl, rfl⟩
    rw [e]
    clear e
    go_wp2
    go_ret2
    rw [NewPost, if_neg (unhide HN)]
    exact ⟨rfl, rfl⟩
end Go.Proofs.Ytaedoagcbkgmbaa
