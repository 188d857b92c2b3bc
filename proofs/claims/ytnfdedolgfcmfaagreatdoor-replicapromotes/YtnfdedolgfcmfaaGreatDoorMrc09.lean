import Derived.Test.YtnfdedolgfcmfaaGreatDoorMrc08
namespace Go.Proofs.YtnfdedolgfcmfaaGreatDoor
open Go.RowKit Go.Extern.Stop Go.Stop Go.Extern
theorem wpAnyS_succ {P : Program} {md : Region.Mode} {ops : Array Oper} {Q : Exit → Act → List Frame → World → Prop} (fuel : Nat) (listed : Array Bool) (a : Act) (cs : List Frame) (w : World) (rs : List Nat) (hr : Region.ready md ops listed = rs) (hne : rs ≠ [])
    (h : ∀ i ∈ rs, wpOpS P ops Q i (wpAnyS P md ops Q fuel (listed.setIfInBounds i true)) a cs w) : wpAnyS P md ops Q (fuel + 1) listed a cs w :=
  ⟨fun e => absurd (hr.symm.trans e) hne, fun i hi => h i (hr ▸ hi)⟩
theorem wpAnyS_done {P : Program} {md : Region.Mode} {ops : Array Oper} {Q : Exit → Act → List Frame → World → Prop} (listed : Array Bool) (a : Act) (cs : List Frame) (w : World) (hr : Region.ready md ops listed = []) (h : Q .normal a cs w) : wpAnyS P md ops Q 0 listed a cs w := ⟨hr, h⟩
set_option maxRecDepth 100000 in
set_option maxHeartbeats 1000000 in
theorem Num1_idle (pr pt : Addr) (b : Nat) (t : Int) (w : World) (h1 : w.cell? pr = some (.pointer (some ⟨b, 0, none⟩))) (h2 : w.cell? pt = some (.int .i64 t)) :
    CallsD Tryz.prog 112 #[.pointer (some pr), .pointer (some pt)] .returning w fun e u' w' => e = .returned (.tuple #[]) ∧ u' = .returning ∧ w' = w.drew := by
  have hS := settle_nil b t w.drew
  refine callsD_of_wpS Tryz.func112 rfl fun c₀ cs hu => ?_
  refine wpS_region_any (by kernel_rfl) ?_
  have hrec : recoverD (c₀ :: cs) = none := by simp [recoverD, hu]
  have d1 : w.drew.cell? pr = some (.pointer (some ⟨b, 0, none⟩)) := h1
  have d2 : w.drew.cell? pt = some (.int .i64 t) := h2
  change wpAnyS _ _ _ _ (3 + 1) #[false, false, false, false] { tmps := #[.pointer (some pr), .pointer (some pt), undef, undef, undef, undef], defers := [] } (c₀ :: cs) w.drew
  refine wpAnyS_succ 3 _ _ _ _ [0, 1, 2] (by kernel_rfl) (by simp) ?_
  intro i hi
  simp only [List.mem_cons, List.not_mem_nil, or_false] at hi
  rcases hi with rfl | rfl | rfl
  · simp [wpOpS, go_sem, d1, Act.put]
    change wpAnyS _ _ _ _ (2 + 1) #[true, false, false, false] { tmps := #[.pointer (some pr), .pointer (some pt), .pointer (some ⟨b, 0, none⟩), undef, undef, undef], defers := [] } (c₀ :: cs) w.drew
    refine wpAnyS_succ 2 _ _ _ _ [1, 2] (by kernel_rfl) (by simp) ?_
    intro i hi
    simp only [List.mem_cons, List.not_mem_nil, or_false] at hi
    rcases hi with rfl | rfl
    · simp [wpOpS, go_sem, d2, Act.put]
      change wpAnyS _ _ _ _ (1 + 1) #[true, true, false, false] { tmps := #[.pointer (some pr), .pointer (some pt), .pointer (some ⟨b, 0, none⟩), .int .i64 t, undef, undef], defers := [] } (c₀ :: cs) w.drew
      refine wpAnyS_succ 1 _ _ _ _ [2] (by kernel_rfl) (by simp) ?_
      intro i hi
      obtain rfl := List.mem_singleton.1 hi
      simp [wpOpS, go_sem, hrec, Act.put]
      change wpAnyS _ _ _ _ (0 + 1) #[true, true, true, false] { tmps := #[.pointer (some pr), .pointer (some pt), .pointer (some ⟨b, 0, none⟩), .int .i64 t, .nilIface, undef], defers := [] } (c₀ :: cs) w.drew
      refine wpAnyS_succ 0 _ _ _ _ [3] (by kernel_rfl) (by simp) ?_
      intro i hi
      obtain rfl := List.mem_singleton.1 hi
      simp [wpOpS, go_sem, Act.put]
      refine hS.mono ?_
      rintro e w2 ⟨rfl, rfl⟩
      refine wpAnyS_done _ _ _ _ (by kernel_rfl) ?_
      cases c₀
      simp_all [bodyPostS, results, Tryz.results112]
    · simp [wpOpS, go_sem, hrec, Act.put]
      change wpAnyS _ _ _ _ (1 + 1) #[true, false, true, false] { tmps := #[.pointer (some pr), .pointer (some pt), .pointer (some ⟨b, 0, none⟩), undef, .nilIface, undef], defers := [] } (c₀ :: cs) w.drew
      refine wpAnyS_succ 1 _ _ _ _ [1] (by kernel_rfl) (by simp) ?_
      intro i hi
      obtain rfl := List.mem_singleton.1 hi
      simp [wpOpS, go_sem, d2, Act.put]
      change wpAnyS _ _ _ _ (0 + 1) #[true, true, true, false] { tmps := #[.pointer (some pr), .pointer (some pt), .pointer (some ⟨b, 0, none⟩), .int .i64 t, .nilIface, undef], defers := [] } (c₀ :: cs) w.drew
      refine wpAnyS_succ 0 _ _ _ _ [3] (by kernel_rfl) (by simp) ?_
      intro i hi
      obtain rfl := List.mem_singleton.1 hi
      simp [wpOpS, go_sem, Act.put]
      refine hS.mono ?_
      rintro e w2 ⟨rfl, rfl⟩
      refine wpAnyS_done _ _ _ _ (by kernel_rfl) ?_
      cases c₀
      simp_all [bodyPostS, results, Tryz.results112]
  · simp [wpOpS, go_sem, d2, Act.put]
    change wpAnyS _ _ _ _ (2 + 1) #[false, true, false, false] { tmps := #[.pointer (some pr), .pointer (some pt), undef, .int .i64 t, undef, undef], defers := [] } (c₀ :: cs) w.drew
    refine wpAnyS_succ 2 _ _ _ _ [0, 2] (by kernel_rfl) (by simp) ?_
    intro i hi
    simp only [List.mem_cons, List.not_mem_nil, or_false] at hi
    rcases hi with rfl | rfl
    · simp [wpOpS, go_sem, d1, Act.put]
      change wpAnyS _ _ _ _ (1 + 1) #[true, true, false, false] { tmps := #[.pointer (some pr), .pointer (some pt), .pointer (some ⟨b, 0, none⟩), .int .i64 t, undef, undef], defers := [] } (c₀ :: cs) w.drew
      refine wpAnyS_succ 1 _ _ _ _ [2] (by kernel_rfl) (by simp) ?_
      intro i hi
      obtain rfl := List.mem_singleton.1 hi
      simp [wpOpS, go_sem, hrec, Act.put]
      change wpAnyS _ _ _ _ (0 + 1) #[true, true, true, false] { tmps := #[.pointer (some pr), .pointer (some pt), .pointer (some ⟨b, 0, none⟩), .int .i64 t, .nilIface, undef], defers := [] } (c₀ :: cs) w.drew
      refine wpAnyS_succ 0 _ _ _ _ [3] (by kernel_rfl) (by simp) ?_
      intro i hi
      obtain rfl := List.mem_singleton.1 hi
      simp [wpOpS, go_sem, Act.put]
      refine hS.mono ?_
      rintro e w2 ⟨rfl, rfl⟩
      refine wpAnyS_done _ _ _ _ (by kernel_rfl) ?_
      cases c₀
      simp_all [bodyPostS, results, Tryz.results112]
    · simp [wpOpS, go_sem, hrec, Act.put]
      change wpAnyS _ _ _ _ (1 + 1) #[false, true, true, false] { tmps := #[.pointer (some pr), .pointer (some pt), undef, .int .i64 t, .nilIface, undef], defers := [] } (c₀ :: cs) w.drew
      refine wpAnyS_succ 1 _ _ _ _ [0] (by kernel_rfl) (by simp) ?_
      intro i hi
      obtain rfl := List.mem_singleton.1 hi
      simp [wpOpS, go_sem, d1, Act.put]
      change wpAnyS _ _ _ _ (0 + 1) #[true, true, true, false] { tmps := #[.pointer (some pr), .pointer (some pt), .pointer (some ⟨b, 0, none⟩), .int .i64 t, .nilIface, undef], defers := [] } (c₀ :: cs) w.drew
      refine wpAnyS_succ 0 _ _ _ _ [3] (by kernel_rfl) (by simp) ?_
      intro i hi
      obtain rfl := List.mem_singleton.1 hi
      simp [wpOpS, go_sem, Act.put]
      refine hS.mono ?_
      rintro e w2 ⟨rfl, rfl⟩
      refine wpAnyS_done _ _ _ _ (by kernel_rfl) ?_
      cases c₀
      simp_all [bodyPostS, results, Tryz.results112]
  · simp [wpOpS, go_sem, hrec, Act.put]
    change wpAnyS _ _ _ _ (2 + 1) #[false, false, true, false] { tmps := #[.pointer (some pr), .pointer (some pt), undef, undef, .nilIface, undef], defers := [] } (c₀ :: cs) w.drew
    refine wpAnyS_succ 2 _ _ _ _ [0, 1] (by kernel_rfl) (by simp) ?_
    intro i hi
    simp only [List.mem_cons, List.not_mem_nil, or_false] at hi
    rcases hi with rfl | rfl
    · simp [wpOpS, go_sem, d1, Act.put]
      change wpAnyS _ _ _ _ (1 + 1) #[true, false, true, false] { tmps := #[.pointer (some pr), .pointer (some pt), .pointer (some ⟨b, 0, none⟩), undef, .nilIface, undef], defers := [] } (c₀ :: cs) w.drew
      refine wpAnyS_succ 1 _ _ _ _ [1] (by kernel_rfl) (by simp) ?_
      intro i hi
      obtain rfl := List.mem_singleton.1 hi
      simp [wpOpS, go_sem, d2, Act.put]
      change wpAnyS _ _ _ _ (0 + 1) #[true, true, true, false] { tmps := #[.pointer (some pr), .pointer (some pt), .pointer (some ⟨b, 0, none⟩), .int .i64 t, .nilIface, undef], defers := [] } (c₀ :: cs) w.drew
      refine wpAnyS_succ 0 _ _ _ _ [3] (by kernel_rfl) (by simp) ?_
      intro i hi
      obtain rfl := List.mem_singleton.1 hi
      simp [wpOpS, go_sem, Act.put]
      refine hS.mono ?_
      rintro e w2 ⟨rfl, rfl⟩
      refine wpAnyS_done _ _ _ _ (by kernel_rfl) ?_
      cases c₀
      simp_all [bodyPostS, results, Tryz.results112]
    · simp [wpOpS, go_sem, d2, Act.put]
      change wpAnyS _ _ _ _ (1 + 1) #[false, true, true, false] { tmps := #[.pointer (some pr), .pointer (some pt), undef, .int .i64 t, .nilIface, undef], defers := [] } (c₀ :: cs) w.drew
      refine wpAnyS_succ 1 _ _ _ _ [0] (by kernel_rfl) (by simp) ?_
      intro i hi
      obtain rfl := List.mem_singleton.1 hi
      simp [wpOpS, go_sem, d1, Act.put]
      change wpAnyS _ _ _ _ (0 + 1) #[true, true, true, false] { tmps := #[.pointer (some pr), .pointer (some pt), .pointer (some ⟨b, 0, none⟩), .int .i64 t, .nilIface, undef], defers := [] } (c₀ :: cs) w.drew
      refine wpAnyS_succ 0 _ _ _ _ [3] (by kernel_rfl) (by simp) ?_
      intro i hi
      obtain rfl := List.mem_singleton.1 hi
      simp [wpOpS, go_sem, Act.put]
      refine hS.mono ?_
      rintro e w2 ⟨rfl, rfl⟩
      refine wpAnyS_done _ _ _ _ (by kernel_rfl) ?_
      cases c₀
      simp_all [bodyPostS, results, Tryz.results112]
set_option maxRecDepth 100000 in
set_option maxHeartbeats 1000000 in
theorem Num1_hit (pr pt : Addr) (b : Nat) (r : ByteArray) (t0 t e0 x : Int) (older : List PanicEntry) (w : World) (hg : ETy w) (hR : Rdr w b r t0 e0) (h1 : w.cell? pr = some (.pointer (some ⟨b, 0, none⟩))) (h2 : w.cell? pt = some (.int .i64 t)) :
    CallsD Tryz.prog 112 #[.pointer (some pr), .pointer (some pt)] (.panicking ({ v := .iface 184 (.agg #[.int .i64 x]), recovered := false } :: older)) w fun e u' w' => e = .returned (.tuple #[]) ∧ u' = .panicking ({ v := .iface 184 (.agg #[.int .i64 x]), recovered := true } :: older) ∧ Rdr w' b ⟨#[]⟩ t x ∧ Only (fun k => k = b) w w' := by
  have hS := settle_hit b r t0 t e0 x w.drew hg hR
  refine callsD_of_wpS Tryz.func112 rfl fun c₀ cs hu => ?_
  refine wpS_region_any (by kernel_rfl) ?_
  have hrec : recoverD (c₀ :: cs) = some (.iface 184 (.agg #[.int .i64 x]), { c₀ with mode := .panicking ({ v := .iface 184 (.agg #[.int .i64 x]), recovered := true } :: older) } :: cs) := by simp [recoverD, hu]
  have d1 : w.drew.cell? pr = some (.pointer (some ⟨b, 0, none⟩)) := h1
  have d2 : w.drew.cell? pt = some (.int .i64 t) := h2
  change wpAnyS _ _ _ _ (3 + 1) #[false, false, false, false] { tmps := #[.pointer (some pr), .pointer (some pt), undef, undef, undef, undef], defers := [] } (c₀ :: cs) w.drew
  refine wpAnyS_succ 3 _ _ _ _ [0, 1, 2] (by kernel_rfl) (by simp) ?_
  intro i hi
  simp only [List.mem_cons, List.not_mem_nil, or_false] at hi
  rcases hi with rfl | rfl | rfl
  · simp [wpOpS, go_sem, d1, Act.put]
    change wpAnyS _ _ _ _ (2 + 1) #[true, false, false, false] { tmps := #[.pointer (some pr), .pointer (some pt), .pointer (some ⟨b, 0, none⟩), undef, undef, undef], defers := [] } (c₀ :: cs) w.drew
    refine wpAnyS_succ 2 _ _ _ _ [1, 2] (by kernel_rfl) (by simp) ?_
    intro i hi
    simp only [List.mem_cons, List.not_mem_nil, or_false] at hi
    rcases hi with rfl | rfl
    · simp [wpOpS, go_sem, d2, Act.put]
      change wpAnyS _ _ _ _ (1 + 1) #[true, true, false, false] { tmps := #[.pointer (some pr), .pointer (some pt), .pointer (some ⟨b, 0, none⟩), .int .i64 t, undef, undef], defers := [] } (c₀ :: cs) w.drew
      refine wpAnyS_succ 1 _ _ _ _ [2] (by kernel_rfl) (by simp) ?_
      intro i hi
      obtain rfl := List.mem_singleton.1 hi
      simp [wpOpS, go_sem, hrec, Act.put]
      change wpAnyS _ _ _ _ (0 + 1) #[true, true, true, false] { tmps := #[.pointer (some pr), .pointer (some pt), .pointer (some ⟨b, 0, none⟩), .int .i64 t, .iface 184 (.agg #[.int .i64 x]), undef], defers := [] } ({ c₀ with mode := .panicking ({ v := .iface 184 (.agg #[.int .i64 x]), recovered := true } :: older) } :: cs) w.drew
      refine wpAnyS_succ 0 _ _ _ _ [3] (by kernel_rfl) (by simp) ?_
      intro i hi
      obtain rfl := List.mem_singleton.1 hi
      simp [wpOpS, go_sem, Act.put]
      refine hS.mono ?_
      rintro e w2 ⟨rfl, hR2, hO2⟩
      refine wpAnyS_done _ _ _ _ (by kernel_rfl) ?_
      exact ⟨rfl, _, rfl, _, by simp [results, Tryz.results112], rfl, rfl, hR2, (Only.refl _ w).drew.trans hO2 (fun _ _ q => q)⟩
    · simp [wpOpS, go_sem, hrec, Act.put]
      change wpAnyS _ _ _ _ (1 + 1) #[true, false, true, false] { tmps := #[.pointer (some pr), .pointer (some pt), .pointer (some ⟨b, 0, none⟩), undef, .iface 184 (.agg #[.int .i64 x]), undef], defers := [] } ({ c₀ with mode := .panicking ({ v := .iface 184 (.agg #[.int .i64 x]), recovered := true } :: older) } :: cs) w.drew
      refine wpAnyS_succ 1 _ _ _ _ [1] (by kernel_rfl) (by simp) ?_
      intro i hi
      obtain rfl := List.mem_singleton.1 hi
      simp [wpOpS, go_sem, d2, Act.put]
      change wpAnyS _ _ _ _ (0 + 1) #[true, true, true, false] { tmps := #[.pointer (some pr), .pointer (some pt), .pointer (some ⟨b, 0, none⟩), .int .i64 t, .iface 184 (.agg #[.int .i64 x]), undef], defers := [] } ({ c₀ with mode := .panicking ({ v := .iface 184 (.agg #[.int .i64 x]), recovered := true } :: older) } :: cs) w.drew
      refine wpAnyS_succ 0 _ _ _ _ [3] (by kernel_rfl) (by simp) ?_
      intro i hi
      obtain rfl := List.mem_singleton.1 hi
      simp [wpOpS, go_sem, Act.put]
      refine hS.mono ?_
      rintro e w2 ⟨rfl, hR2, hO2⟩
      refine wpAnyS_done _ _ _ _ (by kernel_rfl) ?_
      exact ⟨rfl, _, rfl, _, by simp [results, Tryz.results112], rfl, rfl, hR2, (Only.refl _ w).drew.trans hO2 (fun _ _ q => q)⟩
  · simp [wpOpS, go_sem, d2, Act.put]
    change wpAnyS _ _ _ _ (2 + 1) #[false, true, false, false] { tmps := #[.pointer (some pr), .pointer (some pt), undef, .int .i64 t, undef, undef], defers := [] } (c₀ :: cs) w.drew
    refine wpAnyS_succ 2 _ _ _ _ [0, 2] (by kernel_rfl) (by simp) ?_
    intro i hi
    simp only [List.mem_cons, List.not_mem_nil, or_false] at hi
    rcases hi with rfl | rfl
    · simp [wpOpS, go_sem, d1, Act.put]
      change wpAnyS _ _ _ _ (1 + 1) #[true, true, false, false] { tmps := #[.pointer (some pr), .pointer (some pt), .pointer (some ⟨b, 0, none⟩), .int .i64 t, undef, undef], defers := [] } (c₀ :: cs) w.drew
      refine wpAnyS_succ 1 _ _ _ _ [2] (by kernel_rfl) (by simp) ?_
      intro i hi
      obtain rfl := List.mem_singleton.1 hi
      simp [wpOpS, go_sem, hrec, Act.put]
      change wpAnyS _ _ _ _ (0 + 1) #[true, true, true, false] { tmps := #[.pointer (some pr), .pointer (some pt), .pointer (some ⟨b, 0, none⟩), .int .i64 t, .iface 184 (.agg #[.int .i64 x]), undef], defers := [] } ({ c₀ with mode := .panicking ({ v := .iface 184 (.agg #[.int .i64 x]), recovered := true } :: older) } :: cs) w.drew
      refine wpAnyS_succ 0 _ _ _ _ [3] (by kernel_rfl) (by simp) ?_
      intro i hi
      obtain rfl := List.mem_singleton.1 hi
      simp [wpOpS, go_sem, Act.put]
      refine hS.mono ?_
      rintro e w2 ⟨rfl, hR2, hO2⟩
      refine wpAnyS_done _ _ _ _ (by kernel_rfl) ?_
      exact ⟨rfl, _, rfl, _, by simp [results, Tryz.results112], rfl, rfl, hR2, (Only.refl _ w).drew.trans hO2 (fun _ _ q => q)⟩
    · simp [wpOpS, go_sem, hrec, Act.put]
      change wpAnyS _ _ _ _ (1 + 1) #[false, true, true, false] { tmps := #[.pointer (some pr), .pointer (some pt), undef, .int .i64 t, .iface 184 (.agg #[.int .i64 x]), undef], defers := [] } ({ c₀ with mode := .panicking ({ v := .iface 184 (.agg #[.int .i64 x]), recovered := true } :: older) } :: cs) w.drew
      refine wpAnyS_succ 1 _ _ _ _ [0] (by kernel_rfl) (by simp) ?_
      intro i hi
      obtain rfl := List.mem_singleton.1 hi
      simp [wpOpS, go_sem, d1, Act.put]
      change wpAnyS _ _ _ _ (0 + 1) #[true, true, true, false] { tmps := #[.pointer (some pr), .pointer (some pt), .pointer (some ⟨b, 0, none⟩), .int .i64 t, .iface 184 (.agg #[.int .i64 x]), undef], defers := [] } ({ c₀ with mode := .panicking ({ v := .iface 184 (.agg #[.int .i64 x]), recovered := true } :: older) } :: cs) w.drew
      refine wpAnyS_succ 0 _ _ _ _ [3] (by kernel_rfl) (by simp) ?_
      intro i hi
      obtain rfl := List.mem_singleton.1 hi
      simp [wpOpS, go_sem, Act.put]
      refine hS.mono ?_
      rintro e w2 ⟨rfl, hR2, hO2⟩
      refine wpAnyS_done _ _ _ _ (by kernel_rfl) ?_
      exact ⟨rfl, _, rfl, _, by simp [results, Tryz.results112], rfl, rfl, hR2, (Only.refl _ w).drew.trans hO2 (fun _ _ q => q)⟩
  · simp [wpOpS, go_sem, hrec, Act.put]
    change wpAnyS _ _ _ _ (2 + 1) #[false, false, true, false] { tmps := #[.pointer (some pr), .pointer (some pt), undef, undef, .iface 184 (.agg #[.int .i64 x]), undef], defers := [] } ({ c₀ with mode := .panicking ({ v := .iface 184 (.agg #[.int .i64 x]), recovered := true } :: older) } :: cs) w.drew
    refine wpAnyS_succ 2 _ _ _ _ [0, 1] (by kernel_rfl) (by simp) ?_
    intro i hi
    simp only [List.mem_cons, List.not_mem_nil, or_false] at hi
    rcases hi with rfl | rfl
    · simp [wpOpS, go_sem, d1, Act.put]
      change wpAnyS _ _ _ _ (1 + 1) #[true, false, true, false] { tmps := #[.pointer (some pr), .pointer (some pt), .pointer (some ⟨b, 0, none⟩), undef, .iface 184 (.agg #[.int .i64 x]), undef], defers := [] } ({ c₀ with mode := .panicking ({ v := .iface 184 (.agg #[.int .i64 x]), recovered := true } :: older) } :: cs) w.drew
      refine wpAnyS_succ 1 _ _ _ _ [1] (by kernel_rfl) (by simp) ?_
      intro i hi
      obtain rfl := List.mem_singleton.1 hi
      simp [wpOpS, go_sem, d2, Act.put]
      change wpAnyS _ _ _ _ (0 + 1) #[true, true, true, false] { tmps := #[.pointer (some pr), .pointer (some pt), .pointer (some ⟨b, 0, none⟩), .int .i64 t, .iface 184 (.agg #[.int .i64 x]), undef], defers := [] } ({ c₀ with mode := .panicking ({ v := .iface 184 (.agg #[.int .i64 x]), recovered := true } :: older) } :: cs) w.drew
      refine wpAnyS_succ 0 _ _ _ _ [3] (by kernel_rfl) (by simp) ?_
      intro i hi
      obtain rfl := List.mem_singleton.1 hi
      simp [wpOpS, go_sem, Act.put]
      refine hS.mono ?_
      rintro e w2 ⟨rfl, hR2, hO2⟩
      refine wpAnyS_done _ _ _ _ (by kernel_rfl) ?_
      exact ⟨rfl, _, rfl, _, by simp [results, Tryz.results112], rfl, rfl, hR2, (Only.refl _ w).drew.trans hO2 (fun _ _ q => q)⟩
    · simp [wpOpS, go_sem, d2, Act.put]
      change wpAnyS _ _ _ _ (1 + 1) #[false, true, true, false] { tmps := #[.pointer (some pr), .pointer (some pt), undef, .int .i64 t, .iface 184 (.agg #[.int .i64 x]), undef], defers := [] } ({ c₀ with mode := .panicking ({ v := .iface 184 (.agg #[.int .i64 x]), recovered := true } :: older) } :: cs) w.drew
      refine wpAnyS_succ 1 _ _ _ _ [0] (by kernel_rfl) (by simp) ?_
      intro i hi
      obtain rfl := List.mem_singleton.1 hi
      simp [wpOpS, go_sem, d1, Act.put]
      change wpAnyS _ _ _ _ (0 + 1) #[true, true, true, false] { tmps := #[.pointer (some pr), .pointer (some pt), .pointer (some ⟨b, 0, none⟩), .int .i64 t, .iface 184 (.agg #[.int .i64 x]), undef], defers := [] } ({ c₀ with mode := .panicking ({ v := .iface 184 (.agg #[.int .i64 x]), recovered := true } :: older) } :: cs) w.drew
      refine wpAnyS_succ 0 _ _ _ _ [3] (by kernel_rfl) (by simp) ?_
      intro i hi
      obtain rfl := List.mem_singleton.1 hi
      simp [wpOpS, go_sem, Act.put]
      refine hS.mono ?_
      rintro e w2 ⟨rfl, hR2, hO2⟩
      refine wpAnyS_done _ _ _ _ (by kernel_rfl) ?_
      exact ⟨rfl, _, rfl, _, by simp [results, Tryz.results112], rfl, rfl, hR2, (Only.refl _ w).drew.trans hO2 (fun _ _ q => q)⟩
set_option maxRecDepth 100000 in
set_option maxHeartbeats 1000000 in
theorem Raw1_idle (pr pt : Addr) (b : Nat) (t : Int) (w : World) (h1 : w.cell? pr = some (.pointer (some ⟨b, 0, none⟩))) (h2 : w.cell? pt = some (.int .i64 t)) :
    CallsD Tryz.prog 109 #[.pointer (some pr), .pointer (some pt)] .returning w fun e u' w' => e = .returned (.tuple #[]) ∧ u' = .returning ∧ w' = w.drew := by
  have hS := settle_nil b t w.drew
  refine callsD_of_wpS Tryz.func109 rfl fun c₀ cs hu => ?_
  refine wpS_region_any (by kernel_rfl) ?_
  have hrec : recoverD (c₀ :: cs) = none := by simp [recoverD, hu]
  have d1 : w.drew.cell? pr = some (.pointer (some ⟨b, 0, none⟩)) := h1
  have d2 : w.drew.cell? pt = some (.int .i64 t) := h2
  change wpAnyS _ _ _ _ (3 + 1) #[false, false, false, false] { tmps := #[.pointer (some pr), .pointer (some pt), undef, undef, undef, undef], defers := [] } (c₀ :: cs) w.drew
  refine wpAnyS_succ 3 _ _ _ _ [0, 1, 2] (by kernel_rfl) (by simp) ?_
  intro i hi
  simp only [List.mem_cons, List.not_mem_nil, or_false] at hi
  rcases hi with rfl | rfl | rfl
  · simp [wpOpS, go_sem, d1, Act.put]
    change wpAnyS _ _ _ _ (2 + 1) #[true, false, false, false] { tmps := #[.pointer (some pr), .pointer (some pt), .pointer (some ⟨b, 0, none⟩), undef, undef, undef], defers := [] } (c₀ :: cs) w.drew
    refine wpAnyS_succ 2 _ _ _ _ [1, 2] (by kernel_rfl) (by simp) ?_
    intro i hi
    simp only [List.mem_cons, List.not_mem_nil, or_false] at hi
    rcases hi with rfl | rfl
    · simp [wpOpS, go_sem, d2, Act.put]
      change wpAnyS _ _ _ _ (1 + 1) #[true, true, false, false] { tmps := #[.pointer (some pr), .pointer (some pt), .pointer (some ⟨b, 0, none⟩), .int .i64 t, undef, undef], defers := [] } (c₀ :: cs) w.drew
      refine wpAnyS_succ 1 _ _ _ _ [2] (by kernel_rfl) (by simp) ?_
      intro i hi
      obtain rfl := List.mem_singleton.1 hi
      simp [wpOpS, go_sem, hrec, Act.put]
      change wpAnyS _ _ _ _ (0 + 1) #[true, true, true, false] { tmps := #[.pointer (some pr), .pointer (some pt), .pointer (some ⟨b, 0, none⟩), .int .i64 t, .nilIface, undef], defers := [] } (c₀ :: cs) w.drew
      refine wpAnyS_succ 0 _ _ _ _ [3] (by kernel_rfl) (by simp) ?_
      intro i hi
      obtain rfl := List.mem_singleton.1 hi
      simp [wpOpS, go_sem, Act.put]
      refine hS.mono ?_
      rintro e w2 ⟨rfl, rfl⟩
      refine wpAnyS_done _ _ _ _ (by kernel_rfl) ?_
      cases c₀
      simp_all [bodyPostS, results, Tryz.results109]
    · simp [wpOpS, go_sem, hrec, Act.put]
      change wpAnyS _ _ _ _ (1 + 1) #[true, false, true, false] { tmps := #[.pointer (some pr), .pointer (some pt), .pointer (some ⟨b, 0, none⟩), undef, .nilIface, undef], defers := [] } (c₀ :: cs) w.drew
      refine wpAnyS_succ 1 _ _ _ _ [1] (by kernel_rfl) (by simp) ?_
      intro i hi
      obtain rfl := List.mem_singleton.1 hi
      simp [wpOpS, go_sem, d2, Act.put]
      change wpAnyS _ _ _ _ (0 + 1) #[true, true, true, false] { tmps := #[.pointer (some pr), .pointer (some pt), .pointer (some ⟨b, 0, none⟩), .int .i64 t, .nilIface, undef], defers := [] } (c₀ :: cs) w.drew
      refine wpAnyS_succ 0 _ _ _ _ [3] (by kernel_rfl) (by simp) ?_
      intro i hi
      obtain rfl := List.mem_singleton.1 hi
      simp [wpOpS, go_sem, Act.put]
      refine hS.mono ?_
      rintro e w2 ⟨rfl, rfl⟩
      refine wpAnyS_done _ _ _ _ (by kernel_rfl) ?_
      cases c₀
      simp_all [bodyPostS, results, Tryz.results109]
  · simp [wpOpS, go_sem, d2, Act.put]
    change wpAnyS _ _ _ _ (2 + 1) #[false, true, false, false] { tmps := #[.pointer (some pr), .pointer (some pt), undef, .int .i64 t, undef, undef], defers := [] } (c₀ :: cs) w.drew
    refine wpAnyS_succ 2 _ _ _ _ [0, 2] (by kernel_rfl) (by simp) ?_
    intro i hi
    simp only [List.mem_cons, List.not_mem_nil, or_false] at hi
    rcases hi with rfl | rfl
    · simp [wpOpS, go_sem, d1, Act.put]
      change wpAnyS _ _ _ _ (1 + 1) #[true, true, false, false] { tmps := #[.pointer (some pr), .pointer (some pt), .pointer (some ⟨b, 0, none⟩), .int .i64 t, undef, undef], defers := [] } (c₀ :: cs) w.drew
      refine wpAnyS_succ 1 _ _ _ _ [2] (by kernel_rfl) (by simp) ?_
      intro i hi
      obtain rfl := List.mem_singleton.1 hi
      simp [wpOpS, go_sem, hrec, Act.put]
      change wpAnyS _ _ _ _ (0 + 1) #[true, true, true, false] { tmps := #[.pointer (some pr), .pointer (some pt), .pointer (some ⟨b, 0, none⟩), .int .i64 t, .nilIface, undef], defers := [] } (c₀ :: cs) w.drew
      refine wpAnyS_succ 0 _ _ _ _ [3] (by kernel_rfl) (by simp) ?_
      intro i hi
      obtain rfl := List.mem_singleton.1 hi
      simp [wpOpS, go_sem, Act.put]
      refine hS.mono ?_
      rintro e w2 ⟨rfl, rfl⟩
      refine wpAnyS_done _ _ _ _ (by kernel_rfl) ?_
      cases c₀
      simp_all [bodyPostS, results, Tryz.results109]
    · simp [wpOpS, go_sem, hrec, Act.put]
      change wpAnyS _ _ _ _ (1 + 1) #[false, true, true, false] { tmps := #[.pointer (some pr), .pointer (some pt), undef, .int .i64 t, .nilIface, undef], defers := [] } (c₀ :: cs) w.drew
      refine wpAnyS_succ 1 _ _ _ _ [0] (by kernel_rfl) (by simp) ?_
      intro i hi
      obtain rfl := List.mem_singleton.1 hi
      simp [wpOpS, go_sem, d1, Act.put]
      change wpAnyS _ _ _ _ (0 + 1) #[true, true, true, false] { tmps := #[.pointer (some pr), .pointer (some pt), .pointer (some ⟨b, 0, none⟩), .int .i64 t, .nilIface, undef], defers := [] } (c₀ :: cs) w.drew
      refine wpAnyS_succ 0 _ _ _ _ [3] (by kernel_rfl) (by simp) ?_
      intro i hi
      obtain rfl := List.mem_singleton.1 hi
      simp [wpOpS, go_sem, Act.put]
      refine hS.mono ?_
      rintro e w2 ⟨rfl, rfl⟩
      refine wpAnyS_done _ _ _ _ (by kernel_rfl) ?_
      cases c₀
      simp_all [bodyPostS, results, Tryz.results109]
  · simp [wpOpS, go_sem, hrec, Act.put]
    change wpAnyS _ _ _ _ (2 + 1) #[false, false, true, false] { tmps := #[.pointer (some pr), .pointer (some pt), undef, undef, .nilIface, undef], defers := [] } (c₀ :: cs) w.drew
    refine wpAnyS_succ 2 _ _ _ _ [0, 1] (by kernel_rfl) (by simp) ?_
    intro i hi
    simp only [List.mem_cons, List.not_mem_nil, or_false] at hi
    rcases hi with rfl | rfl
    · simp [wpOpS, go_sem, d1, Act.put]
      change wpAnyS _ _ _ _ (1 + 1) #[true, false, true, false] { tmps := #[.pointer (some pr), .pointer (some pt), .pointer (some ⟨b, 0, none⟩), undef, .nilIface, undef], defers := [] } (c₀ :: cs) w.drew
      refine wpAnyS_succ 1 _ _ _ _ [1] (by kernel_rfl) (by simp) ?_
      intro i hi
      obtain rfl := List.mem_singleton.1 hi
      simp [wpOpS, go_sem, d2, Act.put]
      change wpAnyS _ _ _ _ (0 + 1) #[true, true, true, false] { tmps := #[.pointer (some pr), .pointer (some pt), .pointer (some ⟨b, 0, none⟩), .int .i64 t, .nilIface, undef], defers := [] } (c₀ :: cs) w.drew
      refine wpAnyS_succ 0 _ _ _ _ [3] (by kernel_rfl) (by simp) ?_
      intro i hi
      obtain rfl := List.mem_singleton.1 hi
      simp [wpOpS, go_sem, Act.put]
      refine hS.mono ?_
      rintro e w2 ⟨rfl, rfl⟩
      refine wpAnyS_done _ _ _ _ (by kernel_rfl) ?_
      cases c₀
      simp_all [bodyPostS, results, Tryz.results109]
    · simp [wpOpS, go_sem, d2, Act.put]
      change wpAnyS _ _ _ _ (1 + 1) #[false, true, true, false] { tmps := #[.pointer (some pr), .pointer (some pt), undef, .int .i64 t, .nilIface, undef], defers := [] } (c₀ :: cs) w.drew
      refine wpAnyS_succ 1 _ _ _ _ [0] (by kernel_rfl) (by simp) ?_
      intro i hi
      obtain rfl := List.mem_singleton.1 hi
      simp [wpOpS, go_sem, d1, Act.put]
      change wpAnyS _ _ _ _ (0 + 1) #[true, true, true, false] { tmps := #[.pointer (some pr), .pointer (some pt), .pointer (some ⟨b, 0, none⟩), .int .i64 t, .nilIface, undef], defers := [] } (c₀ :: cs) w.drew
      refine wpAnyS_succ 0 _ _ _ _ [3] (by kernel_rfl) (by simp) ?_
      intro i hi
      obtain rfl := List.mem_singleton.1 hi
      simp [wpOpS, go_sem, Act.put]
      refine hS.mono ?_
      rintro e w2 ⟨rfl, rfl⟩
      refine wpAnyS_done _ _ _ _ (by kernel_rfl) ?_
      cases c₀
      simp_all [bodyPostS, results, Tryz.results109]
set_option maxRecDepth 100000 in
set_option maxHeartbeats 1000000 in
theorem Raw1_hit (pr pt : Addr) (b : Nat) (r : ByteArray) (t0 t e0 x : Int) (older : List PanicEntry) (w : World) (hg : ETy w) (hR : Rdr w b r t0 e0) (h1 : w.cell? pr = some (.pointer (some ⟨b, 0, none⟩))) (h2 : w.cell? pt = some (.int .i64 t)) :
    CallsD Tryz.prog 109 #[.pointer (some pr), .pointer (some pt)] (.panicking ({ v := .iface 184 (.agg #[.int .i64 x]), recovered := false } :: older)) w fun e u' w' => e = .returned (.tuple #[]) ∧ u' = .panicking ({ v := .iface 184 (.agg #[.int .i64 x]), recovered := true } :: older) ∧ Rdr w' b ⟨#[]⟩ t x ∧ Only (fun k => k = b) w w' := by
  have hS := settle_hit b r t0 t e0 x w.drew hg hR
  refine callsD_of_wpS Tryz.func109 rfl fun c₀ cs hu => ?_
  refine wpS_region_any (by kernel_rfl) ?_
  have hrec : recoverD (c₀ :: cs) = some (.iface 184 (.agg #[.int .i64 x]), { c₀ with mode := .panicking ({ v := .iface 184 (.agg #[.int .i64 x]), recovered := true } :: older) } :: cs) := by simp [recoverD, hu]
  have d1 : w.drew.cell? pr = some (.pointer (some ⟨b, 0, none⟩)) := h1
  have d2 : w.drew.cell? pt = some (.int .i64 t) := h2
  change wpAnyS _ _ _ _ (3 + 1) #[false, false, false, false] { tmps := #[.pointer (some pr), .pointer (some pt), undef, undef, undef, undef], defers := [] } (c₀ :: cs) w.drew
  refine wpAnyS_succ 3 _ _ _ _ [0, 1, 2] (by kernel_rfl) (by simp) ?_
  intro i hi
  simp only [List.mem_cons, List.not_mem_nil, or_false] at hi
  rcases hi with rfl | rfl | rfl
  · simp [wpOpS, go_sem, d1, Act.put]
    change wpAnyS _ _ _ _ (2 + 1) #[true, false, false, false] { tmps := #[.pointer (some pr), .pointer (some pt), .pointer (some ⟨b, 0, none⟩), undef, undef, undef], defers := [] } (c₀ :: cs) w.drew
    refine wpAnyS_succ 2 _ _ _ _ [1, 2] (by kernel_rfl) (by simp) ?_
    intro i hi
    simp only [List.mem_cons, List.not_mem_nil, or_false] at hi
    rcases hi with rfl | rfl
    · simp [wpOpS, go_sem, d2, Act.put]
      change wpAnyS _ _ _ _ (1 + 1) #[true, true, false, false] { tmps := #[.pointer (some pr), .pointer (some pt), .pointer (some ⟨b, 0, none⟩), .int .i64 t, undef, undef], defers := [] } (c₀ :: cs) w.drew
      refine wpAnyS_succ 1 _ _ _ _ [2] (by kernel_rfl) (by simp) ?_
      intro i hi
      obtain rfl := List.mem_singleton.1 hi
      simp [wpOpS, go_sem, hrec, Act.put]
      change wpAnyS _ _ _ _ (0 + 1) #[true, true, true, false] { tmps := #[.pointer (some pr), .pointer (some pt), .pointer (some ⟨b, 0, none⟩), .int .i64 t, .iface 184 (.agg #[.int .i64 x]), undef], defers := [] } ({ c₀ with mode := .panicking ({ v := .iface 184 (.agg #[.int .i64 x]), recovered := true } :: older) } :: cs) w.drew
      refine wpAnyS_succ 0 _ _ _ _ [3] (by kernel_rfl) (by simp) ?_
      intro i hi
      obtain rfl := List.mem_singleton.1 hi
      simp [wpOpS, go_sem, Act.put]
      refine hS.mono ?_
      rintro e w2 ⟨rfl, hR2, hO2⟩
      refine wpAnyS_done _ _ _ _ (by kernel_rfl) ?_
      exact ⟨rfl, _, rfl, _, by simp [results, Tryz.results109], rfl, rfl, hR2, (Only.refl _ w).drew.trans hO2 (fun _ _ q => q)⟩
    · simp [wpOpS, go_sem, hrec, Act.put]
      change wpAnyS _ _ _ _ (1 + 1) #[true, false, true, false] { tmps := #[.pointer (some pr), .pointer (some pt), .pointer (some ⟨b, 0, none⟩), undef, .iface 184 (.agg #[.int .i64 x]), undef], defers := [] } ({ c₀ with mode := .panicking ({ v := .iface 184 (.agg #[.int .i64 x]), recovered := true } :: older) } :: cs) w.drew
      refine wpAnyS_succ 1 _ _ _ _ [1] (by kernel_rfl) (by simp) ?_
      intro i hi
      obtain rfl := List.mem_singleton.1 hi
      simp [wpOpS, go_sem, d2, Act.put]
      change wpAnyS _ _ _ _ (0 + 1) #[true, true, true, false] { tmps := #[.pointer (some pr), .pointer (some pt), .pointer (some ⟨b, 0, none⟩), .int .i64 t, .iface 184 (.agg #[.int .i64 x]), undef], defers := [] } ({ c₀ with mode := .panicking ({ v := .iface 184 (.agg #[.int .i64 x]), recovered := true } :: older) } :: cs) w.drew
      refine wpAnyS_succ 0 _ _ _ _ [3] (by kernel_rfl) (by simp) ?_
      intro i hi
      obtain rfl := List.mem_singleton.1 hi
      simp [wpOpS, go_sem, Act.put]
      refine hS.mono ?_
      rintro e w2 ⟨rfl, hR2, hO2⟩
      refine wpAnyS_done _ _ _ _ (by kernel_rfl) ?_
      exact ⟨rfl, _, rfl, _, by simp [results, Tryz.results109], rfl, rfl, hR2, (Only.refl _ w).drew.trans hO2 (fun _ _ q => q)⟩
  · simp [wpOpS, go_sem, d2, Act.put]
    change wpAnyS _ _ _ _ (2 + 1) #[false, true, false, false] { tmps := #[.pointer (some pr), .pointer (some pt), undef, .int .i64 t, undef, undef], defers := [] } (c₀ :: cs) w.drew
    refine wpAnyS_succ 2 _ _ _ _ [0, 2] (by kernel_rfl) (by simp) ?_
    intro i hi
    simp only [List.mem_cons, List.not_mem_nil, or_false] at hi
    rcases hi with rfl | rfl
    · simp [wpOpS, go_sem, d1, Act.put]
      change wpAnyS _ _ _ _ (1 + 1) #[true, true, false, false] { tmps := #[.pointer (some pr), .pointer (some pt), .pointer (some ⟨b, 0, none⟩), .int .i64 t, undef, undef], defers := [] } (c₀ :: cs) w.drew
      refine wpAnyS_succ 1 _ _ _ _ [2] (by kernel_rfl) (by simp) ?_
      intro i hi
      obtain rfl := List.mem_singleton.1 hi
      simp [wpOpS, go_sem, hrec, Act.put]
      change wpAnyS _ _ _ _ (0 + 1) #[true, true, true, false] { tmps := #[.pointer (some pr), .pointer (some pt), .pointer (some ⟨b, 0, none⟩), .int .i64 t, .iface 184 (.agg #[.int .i64 x]), undef], defers := [] } ({ c₀ with mode := .panicking ({ v := .iface 184 (.agg #[.int .i64 x]), recovered := true } :: older) } :: cs) w.drew
      refine wpAnyS_succ 0 _ _ _ _ [3] (by kernel_rfl) (by simp) ?_
      intro i hi
      obtain rfl := List.mem_singleton.1 hi
      simp [wpOpS, go_sem, Act.put]
      refine hS.mono ?_
      rintro e w2 ⟨rfl, hR2, hO2⟩
      refine wpAnyS_done _ _ _ _ (by kernel_rfl) ?_
      exact ⟨rfl, _, rfl, _, by simp [results, Tryz.results109], rfl, rfl, hR2, (Only.refl _ w).drew.trans hO2 (fun _ _ q => q)⟩
    · simp [wpOpS, go_sem, hrec, Act.put]
      change wpAnyS _ _ _ _ (1 + 1) #[false, true, true, false] { tmps := #[.pointer (some pr), .pointer (some pt), undef, .int .i64 t, .iface 184 (.agg #[.int .i64 x]), undef], defers := [] } ({ c₀ with mode := .panicking ({ v := .iface 184 (.agg #[.int .i64 x]), recovered := true } :: older) } :: cs) w.drew
      refine wpAnyS_succ 1 _ _ _ _ [0] (by kernel_rfl) (by simp) ?_
      intro i hi
      obtain rfl := List.mem_singleton.1 hi
      simp [wpOpS, go_sem, d1, Act.put]
      change wpAnyS _ _ _ _ (0 + 1) #[true, true, true, false] { tmps := #[.pointer (some pr), .pointer (some pt), .pointer (some ⟨b, 0, none⟩), .int .i64 t, .iface 184 (.agg #[.int .i64 x]), undef], defers := [] } ({ c₀ with mode := .panicking ({ v := .iface 184 (.agg #[.int .i64 x]), recovered := true } :: older) } :: cs) w.drew
      refine wpAnyS_succ 0 _ _ _ _ [3] (by kernel_rfl) (by simp) ?_
      intro i hi
      obtain rfl := List.mem_singleton.1 hi
      simp [wpOpS, go_sem, Act.put]
      refine hS.mono ?_
      rintro e w2 ⟨rfl, hR2, hO2⟩
      refine wpAnyS_done _ _ _ _ (by kernel_rfl) ?_
      exact ⟨rfl, _, rfl, _, by simp [results, Tryz.results109], rfl, rfl, hR2, (Only.refl _ w).drew.trans hO2 (fun _ _ q => q)⟩
  · simp [wpOpS, go_sem, hrec, Act.put]
    change wpAnyS _ _ _ _ (2 + 1) #[false, false, true, false] { tmps := #[.pointer (some pr), .pointer (some pt), undef, undef, .iface 184 (.agg #[.int .i64 x]), undef], defers := [] } ({ c₀ with mode := .panicking ({ v := .iface 184 (.agg #[.int .i64 x]), recovered := true } :: older) } :: cs) w.drew
    refine wpAnyS_succ 2 _ _ _ _ [0, 1] (by kernel_rfl) (by simp) ?_
    intro i hi
    simp only [List.mem_cons, List.not_mem_nil, or_false] at hi
    rcases hi with rfl | rfl
    · simp [wpOpS, go_sem, d1, Act.put]
      change wpAnyS _ _ _ _ (1 + 1) #[true, false, true, false] { tmps := #[.pointer (some pr), .pointer (some pt), .pointer (some ⟨b, 0, none⟩), undef, .iface 184 (.agg #[.int .i64 x]), undef], defers := [] } ({ c₀ with mode := .panicking ({ v := .iface 184 (.agg #[.int .i64 x]), recovered := true } :: older) } :: cs) w.drew
      refine wpAnyS_succ 1 _ _ _ _ [1] (by kernel_rfl) (by simp) ?_
      intro i hi
      obtain rfl := List.mem_singleton.1 hi
      simp [wpOpS, go_sem, d2, Act.put]
      change wpAnyS _ _ _ _ (0 + 1) #[true, true, true, false] { tmps := #[.pointer (some pr), .pointer (some pt), .pointer (some ⟨b, 0, none⟩), .int .i64 t, .iface 184 (.agg #[.int .i64 x]), undef], defers := [] } ({ c₀ with mode := .panicking ({ v := .iface 184 (.agg #[.int .i64 x]), recovered := true } :: older) } :: cs) w.drew
      refine wpAnyS_succ 0 _ _ _ _ [3] (by kernel_rfl) (by simp) ?_
      intro i hi
      obtain rfl := List.mem_singleton.1 hi
      simp [wpOpS, go_sem, Act.put]
      refine hS.mono ?_
      rintro e w2 ⟨rfl, hR2, hO2⟩
      refine wpAnyS_done _ _ _ _ (by kernel_rfl) ?_
      exact ⟨rfl, _, rfl, _, by simp [results, Tryz.results109], rfl, rfl, hR2, (Only.refl _ w).drew.trans hO2 (fun _ _ q => q)⟩
    · simp [wpOpS, go_sem, d2, Act.put]
      change wpAnyS _ _ _ _ (1 + 1) #[false, true, true, false] { tmps := #[.pointer (some pr), .pointer (some pt), undef, .int .i64 t, .iface 184 (.agg #[.int .i64 x]), undef], defers := [] } ({ c₀ with mode := .panicking ({ v := .iface 184 (.agg #[.int .i64 x]), recovered := true } :: older) } :: cs) w.drew
      refine wpAnyS_succ 1 _ _ _ _ [0] (by kernel_rfl) (by simp) ?_
      intro i hi
      obtain rfl := List.mem_singleton.1 hi
      simp [wpOpS, go_sem, d1, Act.put]
      change wpAnyS _ _ _ _ (0 + 1) #[true, true, true, false] { tmps := #[.pointer (some pr), .pointer (some pt), .pointer (some ⟨b, 0, none⟩), .int .i64 t, .iface 184 (.agg #[.int .i64 x]), undef], defers := [] } ({ c₀ with mode := .panicking ({ v := .iface 184 (.agg #[.int .i64 x]), recovered := true } :: older) } :: cs) w.drew
      refine wpAnyS_succ 0 _ _ _ _ [3] (by kernel_rfl) (by simp) ?_
      intro i hi
      obtain rfl := List.mem_singleton.1 hi
      simp [wpOpS, go_sem, Act.put]
      refine hS.mono ?_
      rintro e w2 ⟨rfl, hR2, hO2⟩
      refine wpAnyS_done _ _ _ _ (by kernel_rfl) ?_
      exact ⟨rfl, _, rfl, _, by simp [results, Tryz.results109], rfl, rfl, hR2, (Only.refl _ w).drew.trans hO2 (fun _ _ q => q)⟩
end Go.Proofs.YtnfdedolgfcmfaaGreatDoor
