import Derived.Test.YtkmgbicacbalfabDoorLtn
import Derived.Test.YtkmgbicacbalfabDoorRpp
namespace Go.Proofs.YtkmgbicacbalfabDoor
open Go.RowKit
theorem own_size : errM 4 258 (ByteArray.size ⟨#[97, 98, 99]⟩) = 0 := by decide +kernel
theorem own_parts : (makeB 4 258 ⟨#[97, 98, 99]⟩).size = 256 ∧ (makeB 4 258 ⟨#[97, 98, 99]⟩).extract 0 11 = ⟨#[83, 66, 4, 3, 0, 0, 1, 2, 97, 98, 99]⟩ := by
  have hm : makeB 4 258 ⟨#[97, 98, 99]⟩ = strOfNums (makeL 4 258 (nums ⟨#[97, 98, 99]⟩)) := by rw [makeB, if_pos own_size]
  have hn : nums (makeB 4 258 ⟨#[97, 98, 99]⟩) = makeL 4 258 (nums ⟨#[97, 98, 99]⟩) := by rw [hm]; exact nums_strOfNums _ (makeL_bytes _ _ _ (nums_bytes _))
  have hl : (nums ⟨#[97, 98, 99]⟩).length ≤ 244 := by decide
  refine ⟨by rw [← nums_len, hn]; exact makeL_len _ _ _ hl, nums_inj ?_⟩
  rw [nums_extract, List.drop_zero, hn, page_front _ _ _ ((fits1 4).2 (by decide)) hl]
  have e1 : numB 258 4 = [0, 0, 1, 2] := by decide
  have e2 : nums ⟨#[97, 98, 99]⟩ = [97, 98, 99] := rfl
  rw [e1, e2]
  rfl
set_option maxRecDepth 100000 in
set_option maxHeartbeats 4000000 in
theorem makes_walk (kind number : Int) (body : ByteArray) (w : World) (hg : ETy w) :
    Calls Tryd.prog 6 #[.agg #[.int .i64 kind, .int .i64 number, .string body]] w fun e w' => e = .returned (.bool true) ∧ Below w.heap.size w w' := by
  have HMK := hide (fun W => make_any rep_ok kind number body W)
  have HRM := hide (fun W => rmake_any kind number body W)
  have HOW := hide (fun W => make_any rep_ok 4 258 ⟨#[97, 98, 99]⟩ W)
  obtain ⟨os, ox⟩ := own_parts
  rw [own_size] at HOW
  obtain ⟨O, hO⟩ : ∃ O, makeB 4 258 ⟨#[97, 98, 99]⟩ = O := ⟨_, rfl⟩
  rw [hO] at HOW os ox
  have hos : ((O.size : Int) != 256) = false := by rw [os]; rfl
  have hol : (11 : Int) ≤ (O.size : Int) := by omega
  have HSM := hide (fun W => same_true kind number body W)
  have HG := hide hg
  obtain ⟨St, hSt⟩ : ∃ S, makeB kind number body = S := ⟨_, rfl⟩
  obtain ⟨E, hE⟩ : ∃ E, errM kind number body.size = E := ⟨_, rfl⟩
  rw [hSt, hE] at HMK HRM
  clear hO hg
  by_cases hE0 : E = 0
  · subst hE0
    obtain ⟨hok, q1, q2, q3⟩ := make_parse kind number body hE
    rw [hSt] at hok q1 q2 q3
    have hsz := (prOk_size St hok).1
    have HPS := hide (fun W (hW : ETy W) => parse_yes St (by omega) hok W hW)
    rw [q1, q2, q3] at HPS
    clear hok q1 q2 q3 hE hSt hsz
    go_enter Tryd.func6, Tryd.ntmps6
    go_wp2_with fail
    refine (unhide HMK _).mono ?_
    rintro ev x1 ⟨rfl, hB1⟩
    have hP1 : Blk x1 w.heap.size #[.int .i64 kind, .int .i64 number, .string body] 46 := (Blk.new w _ _).below hB1 (by simp)
    have B1 := hide (show Below w.heap.size w x1 from ((Below.refl _ w).alloc (Nat.le_refl _) _).trans (hB1.mono (by simp)))
    have p0 : x1.cell? ⟨w.heap.size, 0, none⟩ = some (.int .i64 kind) := by rw [hP1.cell 0]; rfl
    have p1 : x1.cell? ⟨w.heap.size, 1, none⟩ = some (.int .i64 number) := by rw [hP1.cell 1]; rfl
    have p2 : x1.cell? ⟨w.heap.size, 2, none⟩ = some (.string body) := by rw [hP1.cell 2]; rfl
    have hl1 := hP1.lt
    have PB1 := hide hP1
    clear hB1 hP1 HMK
    go_wp2_with fail
    refine (unhide HRM _).mono ?_
    rintro ev x2 ⟨rfl, hB2⟩
    have hP2 := (unhide PB1).below hB2 hl1
    have B2 := hide (show Below w.heap.size w x2 from (unhide B1).trans (hB2.mono (by omega)))
    have hl2 := hP2.lt
    have PB2 := hide hP2
    clear hB2 hP2 PB1 B1 HRM p0 p1 p2
    go_wp2_with fail
    refine (unhide HPS _ ((unhide HG).below (unhide B2) (unhide HG).lt)).mono ?_
    rintro ev x3 ⟨rfl, hB3⟩
    have hP3 := (unhide PB2).below hB3 hl2
    have B3 := hide (show Below w.heap.size w x3 from (unhide B2).trans (hB3.mono (by omega)))
    have hl3 := hP3.lt
    have PB3 := hide hP3
    clear hB3 hP3 PB2 B2 HPS
    go_wp2_with fail
    refine (unhide HOW _).mono ?_
    rintro ev x4 ⟨rfl, hB4⟩
    have hP4 := ((unhide PB3).alloc (Obj.cells #[.int .i64 kind, .int .i64 number, .string body] 46)).below hB4 (by simp; omega)
    have hQ4 := (Blk.new x3 46 #[.int .i64 kind, .int .i64 number, .string body]).below hB4 (by simp)
    have p0 : x4.cell? ⟨w.heap.size, 0, none⟩ = some (.int .i64 kind) := by rw [hP4.cell 0]; rfl
    have p1 : x4.cell? ⟨w.heap.size, 1, none⟩ = some (.int .i64 number) := by rw [hP4.cell 1]; rfl
    have p2 : x4.cell? ⟨w.heap.size, 2, none⟩ = some (.string body) := by rw [hP4.cell 2]; rfl
    have d0 : x4.cell? ⟨x3.heap.size, 0, none⟩ = some (.int .i64 kind) := by rw [hQ4.cell 0]; rfl
    have d1 : x4.cell? ⟨x3.heap.size, 1, none⟩ = some (.int .i64 number) := by rw [hQ4.cell 1]; rfl
    have d2 : x4.cell? ⟨x3.heap.size, 2, none⟩ = some (.string body) := by rw [hQ4.cell 2]; rfl
    have B4 := hide (show Below w.heap.size w x4 from ((unhide B3).alloc (by omega) _).trans (hB4.mono (by simp; omega)))
    have hl4 : w.heap.size < x4.heap.size := hP4.lt
    clear hB4 hP4 hQ4 B3 HOW PB3
    go_wp2_with fail
    refine (unhide HSM _).mono ?_
    rintro ev x5 ⟨rfl, hB5⟩
    have B5 := hide (show Below w.heap.size w x5 from (unhide B4).trans (hB5.mono (by omega)))
    clear hB5 B4
    go_wp2
    go_ret
    exact ⟨rfl, unhide B5⟩
  · have hSe : St = ⟨#[]⟩ := by rw [← hSt, makeB, if_neg (by rw [hE]; exact hE0)]
    have hne : (E != 0) = true := by simp [hE0]
    have hbad : ¬ prOk St := fun q => by
      have := (prOk_size St q).1
      rw [hSe] at this
      exact absurd this (by decide)
    have HPS := hide (fun W (hW : ETy W) => parse_no St (by rw [hSe]; decide) hbad W hW)
    rw [hSe] at HPS HMK HRM
    clear hbad hSe hE hSt
    go_enter Tryd.func6, Tryd.ntmps6
    go_wp2_with fail
    refine (unhide HMK _).mono ?_
    rintro ev x1 ⟨rfl, hB1⟩
    have hP1 : Blk x1 w.heap.size #[.int .i64 kind, .int .i64 number, .string body] 46 := (Blk.new w _ _).below hB1 (by simp)
    have B1 := hide (show Below w.heap.size w x1 from ((Below.refl _ w).alloc (Nat.le_refl _) _).trans (hB1.mono (by simp)))
    have p0 : x1.cell? ⟨w.heap.size, 0, none⟩ = some (.int .i64 kind) := by rw [hP1.cell 0]; rfl
    have p1 : x1.cell? ⟨w.heap.size, 1, none⟩ = some (.int .i64 number) := by rw [hP1.cell 1]; rfl
    have p2 : x1.cell? ⟨w.heap.size, 2, none⟩ = some (.string body) := by rw [hP1.cell 2]; rfl
    have hl1 := hP1.lt
    have PB1 := hide hP1
    clear hB1 hP1 HMK
    go_wp2_with fail
    refine (unhide HRM _).mono ?_
    rintro ev x2 ⟨rfl, hB2⟩
    have hP2 := (unhide PB1).below hB2 hl1
    have B2 := hide (show Below w.heap.size w x2 from (unhide B1).trans (hB2.mono (by omega)))
    have hl2 := hP2.lt
    have PB2 := hide hP2
    clear hB2 hP2 PB1 B1 HRM p0 p1 p2
    go_wp2_with fail
    refine (unhide HPS _ ((unhide HG).below (unhide B2) (unhide HG).lt)).mono ?_
    rintro ev x3 ⟨rfl, hB3⟩
    have hP3 := (unhide PB2).below hB3 hl2
    have B3 := hide (show Below w.heap.size w x3 from (unhide B2).trans (hB3.mono (by omega)))
    have hl3 := hP3.lt
    have PB3 := hide hP3
    clear hB3 hP3 PB2 B2 HPS
    go_wp2_with fail
    refine (unhide HOW _).mono ?_
    rintro ev x4 ⟨rfl, hB4⟩
    have hP4 := ((unhide PB3).alloc (Obj.cells #[.int .i64 0, .int .i64 0, .string ⟨#[]⟩] 46)).below hB4 (by simp; omega)
    have hQ4 := (Blk.new x3 46 #[.int .i64 0, .int .i64 0, .string ⟨#[]⟩]).below hB4 (by simp)
    have p0 : x4.cell? ⟨w.heap.size, 0, none⟩ = some (.int .i64 kind) := by rw [hP4.cell 0]; rfl
    have p1 : x4.cell? ⟨w.heap.size, 1, none⟩ = some (.int .i64 number) := by rw [hP4.cell 1]; rfl
    have p2 : x4.cell? ⟨w.heap.size, 2, none⟩ = some (.string body) := by rw [hP4.cell 2]; rfl
    clear p0 p1 p2
    have B4 := hide (show Below w.heap.size w x4 from ((unhide B3).alloc (by omega) _).trans (hB4.mono (by simp; omega)))
    have hl4 : w.heap.size < x4.heap.size := hP4.lt
    clear hB4 hP4 hQ4 B3 HOW PB3
    go_wp2
    go_ret
    exact ⟨rfl, unhide B4⟩
end Go.Proofs.YtkmgbicacbalfabDoor
