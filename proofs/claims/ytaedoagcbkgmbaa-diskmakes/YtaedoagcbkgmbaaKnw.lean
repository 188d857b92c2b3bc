import Derived.Test.YtaedoagcbkgmbaaDsi
namespace Go.Proofs.Ytaedoagcbkgmbaa
open Go.RowKit
theorem zero256_size : zero256.size = 256 := by
  show (List.replicate 256 (0 : UInt8)).toArray.size = 256
  rw [List.size_toArray, List.length_replicate]
theorem new128 (w : World) : Calls Try.prog 32 #[.int .i64 128] w fun e w' => ∃ b, e = .returned (.tuple #[.pointer (some ⟨b, 0, none⟩), .int .i64 0]) ∧ DI w w' b (freshS (List.replicate 128 zero256)) := by
  refine (new_any 128 w).mono ?_
  intro e w' h
  rw [NewPost, if_pos (by decide)] at h
  obtain ⟨b, v, h1, h2, h3⟩ := h
  exact ⟨b, h1, v, h2, h3, Sane.fresh _ (by rw [List.length_replicate]; decide) (by rw [List.length_replicate]; decide)⟩
theorem getD_set_same (l : List ByteArray) (j : Nat) (t : ByteArray) (h : j < l.length) : (l.set j t).getD j ByteArray.empty = t := by simp [h]
theorem getD_set_other (l : List ByteArray) (j k : Nat) (t : ByteArray) (h : j ≠ k) : (l.set j t).getD k ByteArray.empty = l.getD k ByteArray.empty := by simp [h]
theorem known_states (L : List ByteArray) (hL : L.length = 128) (T1 T2 : ByteArray) (h1 : T1.size = 256) (h2 : T2.size = 256) :
    ∃ s2 s3 s4 s5, writeE (freshS L) 1 T1 = 0 ∧ writeS (freshS L) 1 T1 = s2 ∧ flushE s2 = 0 ∧ flushS s2 = s3 ∧ writeE s3 1 T2 = 0 ∧ writeS s3 1 T2 = s4 ∧ readE s4 1 = 0 ∧ readT s4 1 = T2 ∧ crashE s4 [] = 0 ∧ crashS s4 [] = s5 ∧ readE s5 1 = 0 ∧ readT s5 1 = T1
      ∧ s2.pend.length ≤ 10 ∧ s2.acts.length ≤ 10 ∧ s3.pend.length ≤ 10 ∧ s3.acts.length ≤ 10 ∧ s4.pend.length ≤ 10 := by
  obtain ⟨a1, a2⟩ := writeA (s := freshS L) ⟨rfl, rfl⟩ 1 (by show 1 < L.length; omega) T1 h1
  obtain ⟨b1, b2⟩ := flushA (s := { freshS L with now := L.set 1 T1, pend := [(1, T1)], acts := [(0, 1)] }) ⟨rfl, rfl⟩
  obtain ⟨c1, c2⟩ := writeA (s := ⟨L.set 1 T1, L.set 1 T1, [], [(0, 1), (1, 0)], 0, false⟩) ⟨rfl, rfl⟩ 1 (by show 1 < (L.set 1 T1).length; rw [List.length_set]; omega) T2 h2
  obtain ⟨d1, d2⟩ := readA (s := ⟨L.set 1 T1, (L.set 1 T1).set 1 T2, [(1, T2)], [(0, 1), (1, 0), (0, 1)], 0, false⟩) ⟨rfl, rfl⟩ 1 (by show 1 < (L.set 1 T1).length; rw [List.length_set]; omega)
  obtain ⟨e1, e2⟩ := crash_nil ⟨L.set 1 T1, (L.set 1 T1).set 1 T2, [(1, T2)], [(0, 1), (1, 0), (0, 1)], 0, false⟩
  obtain ⟨f1, f2⟩ := readA (s := ⟨L.set 1 T1, L.set 1 T1, [], [(0, 1), (1, 0), (0, 1)], 0, false⟩) ⟨rfl, rfl⟩ 1 (by show 1 < (L.set 1 T1).length; rw [List.length_set]; omega)
  refine ⟨_, _, _, _, a1, a2, b1, b2, c1, c2, d1, ?_, e1, e2, f1, ?_, ?_, ?_, ?_, ?_, ?_⟩
  · exact d2.trans (getD_set_same _ 1 T2 (by rw [List.length_set]; omega))
  · exact f2.trans (getD_set_same L 1 T1 (by omega))
  all_goals simp [freshS]
set_option maxRecDepth 100000 in
set_option maxHeartbeats 4000000 in
theorem known_any (w : World) : Calls Try.prog 24 #[] w fun e w' => e = .returned (.bool true) ∧ Below w.heap.size w w' := by
  have N1 := hide (new128 w)
  have S1 := hide (fun W => sector_any 1 W)
  have S2 := hide (fun W => sector_any 2 W)
  have z1 := sectorB_size 1
  have z2 := sectorB_size 2
  have hL : (List.replicate 128 zero256).length = 128 := by rw [List.length_replicate]
  generalize List.replicate 128 zero256 = L at *
  generalize sectorB 1 = T1 at *
  generalize sectorB 2 = T2 at *
  obtain ⟨s2, s3, s4, s5, a1, a2, b1, b2, c1, c2, d1, d2, e1, e2, f1, f2, p2, q2, p3, q3, p4⟩ := known_states L hL T1 T2 z1 z2
  have F := hide (And.intro p2 (And.intro q2 (And.intro p3 (And.intro q3 p4))))
  clear p2 q2 p3 q3 p4 z1 z2 hL
  go_enter Try.func24, Try.ntmps24
  have A := hide (And.intro a1 (And.intro a2 (And.intro b1 (And.intro b2 (And.intro c1 c2)))))
  have B := hide (And.intro d1 (And.intro d2 (And.intro e1 (And.intro e2 (And.intro f1 f2)))))
  clear a1 a2 b1 b2 c1 c2 d1 d2 e1 e2 f1 f2
  go_wp2_with fail
  refine (unhide N1).mono ?_
  rintro ev x1 ⟨b, rfl, hI1⟩
  have X1 := hide hI1
  clear hI1 N1
  go_wp2_with fail
  refine (unhide S1 _).mono ?_
  rintro ev x2 ⟨rfl, hb2⟩
  have X2 := hide ((unhide X1).below hb2)
  clear hb2 X1
  go_wp2_with fail
  refine (writeD (unhide X2) (by show 0 ≤ _; omega) (by show 0 ≤ _; omega) 1 T1).mono ?_
  rintro ev x3 ⟨rfl, hI3⟩
  rw [(unhide A).1]
  rw [(unhide A).2.1] at hI3
  have X3 := hide hI3
  clear hI3 X2
  go_wp2_with fail
  refine (flushD (unhide X3) (by have := (unhide F).1; omega) (by have := (unhide F).2.1; omega)).mono ?_
  rintro ev x4 ⟨rfl, hI4⟩
  rw [(unhide A).2.2.1]
  rw [(unhide A).2.2.2.1] at hI4
  have X4 := hide hI4
  clear hI4 X3
  go_wp2_with fail
  refine (unhide S2 _).mono ?_
  rintro ev x5 ⟨rfl, hb5⟩
  have X5 := hide ((unhide X4).below hb5)
  clear hb5 X4
  go_wp2_with fail
  refine (writeD (unhide X5) (by have := (unhide F).2.2.1; omega) (by have := (unhide F).2.2.2.1; omega) 1 T2).mono ?_
  rintro ev x6 ⟨rfl, hI6⟩
  rw [(unhide A).2.2.2.2.1]
  rw [(unhide A).2.2.2.2.2] at hI6
  have X6 := hide hI6
  clear hI6 X5
  go_wp2_with fail
  refine (readD (unhide X6) 1).mono ?_
  rintro ev x7 ⟨rfl, rfl⟩
  rw [(unhide B).1, (unhide B).2.1]
  go_wp2_with fail
  refine (crashD (unhide X6) (by have := (unhide F).2.2.2.2; omega) none [] 0 0 rfl (Ints.nil _ _) (by simp)).mono ?_
  rintro ev x8 ⟨rfl, hI8⟩
  rw [(unhide B).2.2.1]
  rw [(unhide B).2.2.2.1] at hI8
  have X8 := hide hI8
  clear hI8 X6
  go_wp2_with fail
  refine (readD (unhide X8) 1).mono ?_
  rintro ev x9 ⟨rfl, rfl⟩
  rw [(unhide B).2.2.2.2.1, (unhide B).2.2.2.2.2]
  clear A B F
  go_wp2_with fail
  refine (unhide S2 _).mono ?_
  rintro ev x10 ⟨rfl, hb10⟩
  have X10 := hide ((unhide X8).below hb10)
  clear hb10 X8
  go_wp2_with fail
  refine (unhide S1 _).mono ?_
  rintro ev x11 ⟨rfl, hb11⟩
  have X11 := hide ((unhide X10).below hb11)
  clear hb11 X10
  go_wp2
  go_ret
  exact ⟨by simp, (unhide X11).bel⟩
end Go.Proofs.Ytaedoagcbkgmbaa
