import Derived.Test.YtclgkgaobjcifaaGreatDoorMy04
namespace Go.Proofs.YtclgkgaobjcifaaGreatDoor
open Go.RowKit
set_option maxRecDepth 100000
theorem ta_tenant_tenant (W : World) : (Instr.typeAssert (.iface 121 (.agg #[.int .i64 1, .int .i64 1, .int .i64 8])) 101 121 true).run Tryz.prog W = .ok (.tuple #[.agg #[.int .i64 1, .int .i64 1, .int .i64 8], .bool true]) W := by kernel_rfl
theorem ta_quota_tenant (W : World) : (Instr.typeAssert (.iface 122 (.agg #[.int .i64 2, .int .i64 0, .int .i64 65535])) 101 121 true).run Tryz.prog W = .ok (.tuple #[.agg #[.int .i64 0, .int .i64 0, .int .i64 0], .bool false]) W := by kernel_rfl
theorem ta_quota_quota (W : World) : (Instr.typeAssert (.iface 122 (.agg #[.int .i64 2, .int .i64 0, .int .i64 65535])) 101 122 true).run Tryz.prog W = .ok (.tuple #[.agg #[.int .i64 2, .int .i64 0, .int .i64 65535], .bool true]) W := by kernel_rfl
theorem ta_volume_tenant (W : World) : (Instr.typeAssert (.iface 124 (.agg #[.int .i64 1, .int .i64 1, .int .i64 99])) 101 121 true).run Tryz.prog W = .ok (.tuple #[.agg #[.int .i64 0, .int .i64 0, .int .i64 0], .bool false]) W := by kernel_rfl
theorem ta_volume_quota (W : World) : (Instr.typeAssert (.iface 124 (.agg #[.int .i64 1, .int .i64 1, .int .i64 99])) 101 122 true).run Tryz.prog W = .ok (.tuple #[.agg #[.int .i64 0, .int .i64 0, .int .i64 0], .bool false]) W := by kernel_rfl
theorem ta_volume_volume (W : World) : (Instr.typeAssert (.iface 124 (.agg #[.int .i64 1, .int .i64 1, .int .i64 99])) 101 124 true).run Tryz.prog W = .ok (.tuple #[.agg #[.int .i64 1, .int .i64 1, .int .i64 99], .bool true]) W := by kernel_rfl
theorem ta_block_tenant (W : World) : (Instr.typeAssert (.iface 125 (.agg #[.int .i64 1, .int .i64 0, .int .i64 255])) 101 121 true).run Tryz.prog W = .ok (.tuple #[.agg #[.int .i64 0, .int .i64 0, .int .i64 0], .bool false]) W := by kernel_rfl
theorem ta_block_quota (W : World) : (Instr.typeAssert (.iface 125 (.agg #[.int .i64 1, .int .i64 0, .int .i64 255])) 101 122 true).run Tryz.prog W = .ok (.tuple #[.agg #[.int .i64 0, .int .i64 0, .int .i64 0], .bool false]) W := by kernel_rfl
theorem ta_block_volume (W : World) : (Instr.typeAssert (.iface 125 (.agg #[.int .i64 1, .int .i64 0, .int .i64 255])) 101 124 true).run Tryz.prog W = .ok (.tuple #[.agg #[.int .i64 0, .int .i64 0, .int .i64 0], .bool false]) W := by kernel_rfl
theorem ta_block_block (W : World) : (Instr.typeAssert (.iface 125 (.agg #[.int .i64 1, .int .i64 0, .int .i64 255])) 101 125 true).run Tryz.prog W = .ok (.tuple #[.agg #[.int .i64 1, .int .i64 0, .int .i64 255], .bool true]) W := by kernel_rfl
theorem ta_nonce_tenant (W : World) : (Instr.typeAssert (.iface 126 (.agg #[.int .i64 4, .int .i64 0, .int .i64 4294967295])) 101 121 true).run Tryz.prog W = .ok (.tuple #[.agg #[.int .i64 0, .int .i64 0, .int .i64 0], .bool false]) W := by kernel_rfl
theorem ta_nonce_quota (W : World) : (Instr.typeAssert (.iface 126 (.agg #[.int .i64 4, .int .i64 0, .int .i64 4294967295])) 101 122 true).run Tryz.prog W = .ok (.tuple #[.agg #[.int .i64 0, .int .i64 0, .int .i64 0], .bool false]) W := by kernel_rfl
theorem ta_nonce_volume (W : World) : (Instr.typeAssert (.iface 126 (.agg #[.int .i64 4, .int .i64 0, .int .i64 4294967295])) 101 124 true).run Tryz.prog W = .ok (.tuple #[.agg #[.int .i64 0, .int .i64 0, .int .i64 0], .bool false]) W := by kernel_rfl
theorem ta_nonce_block (W : World) : (Instr.typeAssert (.iface 126 (.agg #[.int .i64 4, .int .i64 0, .int .i64 4294967295])) 101 125 true).run Tryz.prog W = .ok (.tuple #[.agg #[.int .i64 0, .int .i64 0, .int .i64 0], .bool false]) W := by kernel_rfl
theorem ta_nonce_nonce (W : World) : (Instr.typeAssert (.iface 126 (.agg #[.int .i64 4, .int .i64 0, .int .i64 4294967295])) 101 126 true).run Tryz.prog W = .ok (.tuple #[.agg #[.int .i64 4, .int .i64 0, .int .i64 4294967295], .bool true]) W := by kernel_rfl
theorem ta_digest_tenant (W : World) : (Instr.typeAssert (.iface 130 (.agg #[.int .i64 32])) 101 121 true).run Tryz.prog W = .ok (.tuple #[.agg #[.int .i64 0, .int .i64 0, .int .i64 0], .bool false]) W := by kernel_rfl
theorem ta_digest_quota (W : World) : (Instr.typeAssert (.iface 130 (.agg #[.int .i64 32])) 101 122 true).run Tryz.prog W = .ok (.tuple #[.agg #[.int .i64 0, .int .i64 0, .int .i64 0], .bool false]) W := by kernel_rfl
theorem ta_digest_volume (W : World) : (Instr.typeAssert (.iface 130 (.agg #[.int .i64 32])) 101 124 true).run Tryz.prog W = .ok (.tuple #[.agg #[.int .i64 0, .int .i64 0, .int .i64 0], .bool false]) W := by kernel_rfl
theorem ta_digest_block (W : World) : (Instr.typeAssert (.iface 130 (.agg #[.int .i64 32])) 101 125 true).run Tryz.prog W = .ok (.tuple #[.agg #[.int .i64 0, .int .i64 0, .int .i64 0], .bool false]) W := by kernel_rfl
theorem ta_digest_nonce (W : World) : (Instr.typeAssert (.iface 130 (.agg #[.int .i64 32])) 101 126 true).run Tryz.prog W = .ok (.tuple #[.agg #[.int .i64 0, .int .i64 0, .int .i64 0], .bool false]) W := by kernel_rfl
theorem ta_digest_digest (W : World) : (Instr.typeAssert (.iface 130 (.agg #[.int .i64 32])) 101 130 true).run Tryz.prog W = .ok (.tuple #[.agg #[.int .i64 32], .bool true]) W := by kernel_rfl
theorem ta_wrapped_tenant (W : World) : (Instr.typeAssert (.iface 131 (.agg #[.int .i64 48])) 101 121 true).run Tryz.prog W = .ok (.tuple #[.agg #[.int .i64 0, .int .i64 0, .int .i64 0], .bool false]) W := by kernel_rfl
theorem ta_wrapped_quota (W : World) : (Instr.typeAssert (.iface 131 (.agg #[.int .i64 48])) 101 122 true).run Tryz.prog W = .ok (.tuple #[.agg #[.int .i64 0, .int .i64 0, .int .i64 0], .bool false]) W := by kernel_rfl
theorem ta_wrapped_volume (W : World) : (Instr.typeAssert (.iface 131 (.agg #[.int .i64 48])) 101 124 true).run Tryz.prog W = .ok (.tuple #[.agg #[.int .i64 0, .int .i64 0, .int .i64 0], .bool false]) W := by kernel_rfl
theorem ta_wrapped_block (W : World) : (Instr.typeAssert (.iface 131 (.agg #[.int .i64 48])) 101 125 true).run Tryz.prog W = .ok (.tuple #[.agg #[.int .i64 0, .int .i64 0, .int .i64 0], .bool false]) W := by kernel_rfl
theorem ta_wrapped_nonce (W : World) : (Instr.typeAssert (.iface 131 (.agg #[.int .i64 48])) 101 126 true).run Tryz.prog W = .ok (.tuple #[.agg #[.int .i64 0, .int .i64 0, .int .i64 0], .bool false]) W := by kernel_rfl
theorem ta_wrapped_digest (W : World) : (Instr.typeAssert (.iface 131 (.agg #[.int .i64 48])) 101 130 true).run Tryz.prog W = .ok (.tuple #[.agg #[.int .i64 0], .bool false]) W := by kernel_rfl
theorem ta_wrapped_wrapped (W : World) : (Instr.typeAssert (.iface 131 (.agg #[.int .i64 48])) 101 131 true).run Tryz.prog W = .ok (.tuple #[.agg #[.int .i64 48], .bool true]) W := by kernel_rfl
theorem ta_sample_tenant (W : World) : (Instr.typeAssert (.iface 132 (.agg #[.int .i64 8])) 101 121 true).run Tryz.prog W = .ok (.tuple #[.agg #[.int .i64 0, .int .i64 0, .int .i64 0], .bool false]) W := by kernel_rfl
theorem ta_sample_quota (W : World) : (Instr.typeAssert (.iface 132 (.agg #[.int .i64 8])) 101 122 true).run Tryz.prog W = .ok (.tuple #[.agg #[.int .i64 0, .int .i64 0, .int .i64 0], .bool false]) W := by kernel_rfl
theorem ta_sample_volume (W : World) : (Instr.typeAssert (.iface 132 (.agg #[.int .i64 8])) 101 124 true).run Tryz.prog W = .ok (.tuple #[.agg #[.int .i64 0, .int .i64 0, .int .i64 0], .bool false]) W := by kernel_rfl
theorem ta_sample_block (W : World) : (Instr.typeAssert (.iface 132 (.agg #[.int .i64 8])) 101 125 true).run Tryz.prog W = .ok (.tuple #[.agg #[.int .i64 0, .int .i64 0, .int .i64 0], .bool false]) W := by kernel_rfl
theorem ta_sample_nonce (W : World) : (Instr.typeAssert (.iface 132 (.agg #[.int .i64 8])) 101 126 true).run Tryz.prog W = .ok (.tuple #[.agg #[.int .i64 0, .int .i64 0, .int .i64 0], .bool false]) W := by kernel_rfl
theorem ta_sample_digest (W : World) : (Instr.typeAssert (.iface 132 (.agg #[.int .i64 8])) 101 130 true).run Tryz.prog W = .ok (.tuple #[.agg #[.int .i64 0], .bool false]) W := by kernel_rfl
theorem ta_sample_wrapped (W : World) : (Instr.typeAssert (.iface 132 (.agg #[.int .i64 8])) 101 131 true).run Tryz.prog W = .ok (.tuple #[.agg #[.int .i64 0], .bool false]) W := by kernel_rfl
theorem ta_sample_sample (W : World) : (Instr.typeAssert (.iface 132 (.agg #[.int .i64 8])) 101 132 true).run Tryz.prog W = .ok (.tuple #[.agg #[.int .i64 8], .bool true]) W := by kernel_rfl
theorem ta_data_tenant (W : World) : (Instr.typeAssert (.iface 133 (.agg #[.int .i64 256])) 101 121 true).run Tryz.prog W = .ok (.tuple #[.agg #[.int .i64 0, .int .i64 0, .int .i64 0], .bool false]) W := by kernel_rfl
theorem ta_data_quota (W : World) : (Instr.typeAssert (.iface 133 (.agg #[.int .i64 256])) 101 122 true).run Tryz.prog W = .ok (.tuple #[.agg #[.int .i64 0, .int .i64 0, .int .i64 0], .bool false]) W := by kernel_rfl
theorem ta_data_volume (W : World) : (Instr.typeAssert (.iface 133 (.agg #[.int .i64 256])) 101 124 true).run Tryz.prog W = .ok (.tuple #[.agg #[.int .i64 0, .int .i64 0, .int .i64 0], .bool false]) W := by kernel_rfl
theorem ta_data_block (W : World) : (Instr.typeAssert (.iface 133 (.agg #[.int .i64 256])) 101 125 true).run Tryz.prog W = .ok (.tuple #[.agg #[.int .i64 0, .int .i64 0, .int .i64 0], .bool false]) W := by kernel_rfl
theorem ta_data_nonce (W : World) : (Instr.typeAssert (.iface 133 (.agg #[.int .i64 256])) 101 126 true).run Tryz.prog W = .ok (.tuple #[.agg #[.int .i64 0, .int .i64 0, .int .i64 0], .bool false]) W := by kernel_rfl
theorem ta_data_digest (W : World) : (Instr.typeAssert (.iface 133 (.agg #[.int .i64 256])) 101 130 true).run Tryz.prog W = .ok (.tuple #[.agg #[.int .i64 0], .bool false]) W := by kernel_rfl
theorem ta_data_wrapped (W : World) : (Instr.typeAssert (.iface 133 (.agg #[.int .i64 256])) 101 131 true).run Tryz.prog W = .ok (.tuple #[.agg #[.int .i64 0], .bool false]) W := by kernel_rfl
theorem ta_data_sample (W : World) : (Instr.typeAssert (.iface 133 (.agg #[.int .i64 256])) 101 132 true).run Tryz.prog W = .ok (.tuple #[.agg #[.int .i64 0], .bool false]) W := by kernel_rfl
theorem ta_data_data (W : World) : (Instr.typeAssert (.iface 133 (.agg #[.int .i64 256])) 101 133 true).run Tryz.prog W = .ok (.tuple #[.agg #[.int .i64 256], .bool true]) W := by kernel_rfl
theorem ta_charge_quota (W : World) : (Instr.typeAssert (.iface 123 (.agg #[.int .i64 2, .int .i64 0, .int .i64 65535])) 101 122 true).run Tryz.prog W = .ok (.tuple #[.agg #[.int .i64 0, .int .i64 0, .int .i64 0], .bool false]) W := by kernel_rfl
theorem ta_charge_charge (W : World) : (Instr.typeAssert (.iface 123 (.agg #[.int .i64 2, .int .i64 0, .int .i64 65535])) 101 123 true).run Tryz.prog W = .ok (.tuple #[.agg #[.int .i64 2, .int .i64 0, .int .i64 65535], .bool true]) W := by kernel_rfl
theorem ta_volumes_quota (W : World) : (Instr.typeAssert (.iface 136 (.agg #[])) 101 122 true).run Tryz.prog W = .ok (.tuple #[.agg #[.int .i64 0, .int .i64 0, .int .i64 0], .bool false]) W := by kernel_rfl
theorem ta_volumes_charge (W : World) : (Instr.typeAssert (.iface 136 (.agg #[])) 101 123 true).run Tryz.prog W = .ok (.tuple #[.agg #[.int .i64 0, .int .i64 0, .int .i64 0], .bool false]) W := by kernel_rfl
theorem ta_volumes_volumes (W : World) : (Instr.typeAssert (.iface 136 (.agg #[])) 101 136 true).run Tryz.prog W = .ok (.tuple #[.agg #[], .bool true]) W := by kernel_rfl
theorem ta_nonce_charge (W : World) : (Instr.typeAssert (.iface 126 (.agg #[.int .i64 4, .int .i64 0, .int .i64 4294967295])) 101 123 true).run Tryz.prog W = .ok (.tuple #[.agg #[.int .i64 0, .int .i64 0, .int .i64 0], .bool false]) W := by kernel_rfl
theorem ta_nonce_volumes (W : World) : (Instr.typeAssert (.iface 126 (.agg #[.int .i64 4, .int .i64 0, .int .i64 4294967295])) 101 136 true).run Tryz.prog W = .ok (.tuple #[.agg #[], .bool false]) W := by kernel_rfl
theorem ta_places_quota (W : World) : (Instr.typeAssert (.iface 135 (.agg #[])) 101 122 true).run Tryz.prog W = .ok (.tuple #[.agg #[.int .i64 0, .int .i64 0, .int .i64 0], .bool false]) W := by kernel_rfl
theorem ta_places_charge (W : World) : (Instr.typeAssert (.iface 135 (.agg #[])) 101 123 true).run Tryz.prog W = .ok (.tuple #[.agg #[.int .i64 0, .int .i64 0, .int .i64 0], .bool false]) W := by kernel_rfl
theorem ta_places_volumes (W : World) : (Instr.typeAssert (.iface 135 (.agg #[])) 101 136 true).run Tryz.prog W = .ok (.tuple #[.agg #[], .bool false]) W := by kernel_rfl
theorem ta_places_nonce (W : World) : (Instr.typeAssert (.iface 135 (.agg #[])) 101 126 true).run Tryz.prog W = .ok (.tuple #[.agg #[.int .i64 0, .int .i64 0, .int .i64 0], .bool false]) W := by kernel_rfl
theorem ta_places_places (W : World) : (Instr.typeAssert (.iface 135 (.agg #[])) 101 135 true).run Tryz.prog W = .ok (.tuple #[.agg #[], .bool true]) W := by kernel_rfl
theorem ta_wrapped_charge (W : World) : (Instr.typeAssert (.iface 131 (.agg #[.int .i64 48])) 101 123 true).run Tryz.prog W = .ok (.tuple #[.agg #[.int .i64 0, .int .i64 0, .int .i64 0], .bool false]) W := by kernel_rfl
theorem ta_wrapped_volumes (W : World) : (Instr.typeAssert (.iface 131 (.agg #[.int .i64 48])) 101 136 true).run Tryz.prog W = .ok (.tuple #[.agg #[], .bool false]) W := by kernel_rfl
theorem ta_wrapped_places (W : World) : (Instr.typeAssert (.iface 131 (.agg #[.int .i64 48])) 101 135 true).run Tryz.prog W = .ok (.tuple #[.agg #[], .bool false]) W := by kernel_rfl
theorem ta_data_charge (W : World) : (Instr.typeAssert (.iface 133 (.agg #[.int .i64 256])) 101 123 true).run Tryz.prog W = .ok (.tuple #[.agg #[.int .i64 0, .int .i64 0, .int .i64 0], .bool false]) W := by kernel_rfl
theorem ta_data_volumes (W : World) : (Instr.typeAssert (.iface 133 (.agg #[.int .i64 256])) 101 136 true).run Tryz.prog W = .ok (.tuple #[.agg #[], .bool false]) W := by kernel_rfl
theorem ta_data_places (W : World) : (Instr.typeAssert (.iface 133 (.agg #[.int .i64 256])) 101 135 true).run Tryz.prog W = .ok (.tuple #[.agg #[], .bool false]) W := by kernel_rfl
set_option maxHeartbeats 4000000 in
theorem exq_tenant (r : Req) (p : Prt) (w : World) : Calls Tryz.prog 61 #[.agg r.cs, fv fTen, .agg p.cs] w fun e w' => e = .returned (.tuple #[.agg (exq fTen r p).1.cs, .agg (exq fTen r p).2.cs]) ∧ Below w.heap.size w w' := by
  obtain ⟨kd, te, qu, vo, bl, no, di, wr, sa, da⟩ := r
  obtain ⟨n, t, q, m, c⟩ := p
  show Calls Tryz.prog 61 #[.agg #[.int .i64 kd, .int .i64 te, .int .i64 qu, .int .i64 vo, .int .i64 bl, .int .i64 no, .string di, .string wr, .string sa, .string da], .iface 121 (.agg #[.int .i64 1, .int .i64 1, .int .i64 8]), .agg #[.int .i64 n, .string t, .slice q m c]] w fun e w' => e = .returned (.tuple #[.agg #[.int .i64 kd, .int .i64 n, .int .i64 qu, .int .i64 vo, .int .i64 bl, .int .i64 no, .string di, .string wr, .string sa, .string da], .agg #[.int .i64 te, .string ⟨#[]⟩, .slice none 0 0]]) ∧ Below w.heap.size w w'
  have k0 := ta_tenant_tenant
  go_enter Tryz.func61, Tryz.ntmps61
  go_wp2
  go_region
  all_goals (try go_wp2)
  all_goals (try go_region)
  all_goals (try go_wp2)
  all_goals (try simp only [Exit.inBlock, Exit.then])
  all_goals (refine bodyPost_ret (by simp [results, Tryz.results61, go_sem]; try rfl) rfl ?_)
  all_goals (exact ⟨rfl, by go_grown⟩)
set_option maxHeartbeats 4000000 in
theorem exq_quota (r : Req) (p : Prt) (w : World) : Calls Tryz.prog 61 #[.agg r.cs, fv fQuo, .agg p.cs] w fun e w' => e = .returned (.tuple #[.agg (exq fQuo r p).1.cs, .agg (exq fQuo r p).2.cs]) ∧ Below w.heap.size w w' := by
  obtain ⟨kd, te, qu, vo, bl, no, di, wr, sa, da⟩ := r
  obtain ⟨n, t, q, m, c⟩ := p
  show Calls Tryz.prog 61 #[.agg #[.int .i64 kd, .int .i64 te, .int .i64 qu, .int .i64 vo, .int .i64 bl, .int .i64 no, .string di, .string wr, .string sa, .string da], .iface 122 (.agg #[.int .i64 2, .int .i64 0, .int .i64 65535]), .agg #[.int .i64 n, .string t, .slice q m c]] w fun e w' => e = .returned (.tuple #[.agg #[.int .i64 kd, .int .i64 te, .int .i64 n, .int .i64 vo, .int .i64 bl, .int .i64 no, .string di, .string wr, .string sa, .string da], .agg #[.int .i64 qu, .string ⟨#[]⟩, .slice none 0 0]]) ∧ Below w.heap.size w w'
  have k0 := ta_quota_tenant
  have k1 := ta_quota_quota
  go_enter Tryz.func61, Tryz.ntmps61
  go_wp2
  go_region
  all_goals (try go_wp2)
  all_goals (try go_region)
  all_goals (try go_wp2)
  all_goals (try simp only [Exit.inBlock, Exit.then])
  all_goals (refine bodyPost_ret (by simp [results, Tryz.results61, go_sem]; try rfl) rfl ?_)
  all_goals (exact ⟨rfl, by go_grown⟩)
set_option maxHeartbeats 4000000 in
theorem exq_volume (r : Req) (p : Prt) (w : World) : Calls Tryz.prog 61 #[.agg r.cs, fv fVol, .agg p.cs] w fun e w' => e = .returned (.tuple #[.agg (exq fVol r p).1.cs, .agg (exq fVol r p).2.cs]) ∧ Below w.heap.size w w' := by
  obtain ⟨kd, te, qu, vo, bl, no, di, wr, sa, da⟩ := r
  obtain ⟨n, t, q, m, c⟩ := p
  show Calls Tryz.prog 61 #[.agg #[.int .i64 kd, .int .i64 te, .int .i64 qu, .int .i64 vo, .int .i64 bl, .int .i64 no, .string di, .string wr, .string sa, .string da], .iface 124 (.agg #[.int .i64 1, .int .i64 1, .int .i64 99]), .agg #[.int .i64 n, .string t, .slice q m c]] w fun e w' => e = .returned (.tuple #[.agg #[.int .i64 kd, .int .i64 te, .int .i64 qu, .int .i64 n, .int .i64 bl, .int .i64 no, .string di, .string wr, .string sa, .string da], .agg #[.int .i64 vo, .string ⟨#[]⟩, .slice none 0 0]]) ∧ Below w.heap.size w w'
  have k0 := ta_volume_tenant
  have k1 := ta_volume_quota
  have k2 := ta_volume_volume
  go_enter Tryz.func61, Tryz.ntmps61
  go_wp2
  go_region
  all_goals (try go_wp2)
  all_goals (try go_region)
  all_goals (try go_wp2)
  all_goals (try simp only [Exit.inBlock, Exit.then])
  all_goals (refine bodyPost_ret (by simp [results, Tryz.results61, go_sem]; try rfl) rfl ?_)
  all_goals (exact ⟨rfl, by go_grown⟩)
set_option maxHeartbeats 4000000 in
theorem exq_block (r : Req) (p : Prt) (w : World) : Calls Tryz.prog 61 #[.agg r.cs, fv fBlo, .agg p.cs] w fun e w' => e = .returned (.tuple #[.agg (exq fBlo r p).1.cs, .agg (exq fBlo r p).2.cs]) ∧ Below w.heap.size w w' := by
  obtain ⟨kd, te, qu, vo, bl, no, di, wr, sa, da⟩ := r
  obtain ⟨n, t, q, m, c⟩ := p
  show Calls Tryz.prog 61 #[.agg #[.int .i64 kd, .int .i64 te, .int .i64 qu, .int .i64 vo, .int .i64 bl, .int .i64 no, .string di, .string wr, .string sa, .string da], .iface 125 (.agg #[.int .i64 1, .int .i64 0, .int .i64 255]), .agg #[.int .i64 n, .string t, .slice q m c]] w fun e w' => e = .returned (.tuple #[.agg #[.int .i64 kd, .int .i64 te, .int .i64 qu, .int .i64 vo, .int .i64 n, .int .i64 no, .string di, .string wr, .string sa, .string da], .agg #[.int .i64 bl, .string ⟨#[]⟩, .slice none 0 0]]) ∧ Below w.heap.size w w'
  have k0 := ta_block_tenant
  have k1 := ta_block_quota
  have k2 := ta_block_volume
  have k3 := ta_block_block
  go_enter Tryz.func61, Tryz.ntmps61
  go_wp2
  go_region
  all_goals (try go_wp2)
  all_goals (try go_region)
  all_goals (try go_wp2)
  all_goals (try simp only [Exit.inBlock, Exit.then])
  all_goals (refine bodyPost_ret (by simp [results, Tryz.results61, go_sem]; try rfl) rfl ?_)
  all_goals (exact ⟨rfl, by go_grown⟩)
set_option maxHeartbeats 4000000 in
theorem exq_nonce (r : Req) (p : Prt) (w : World) : Calls Tryz.prog 61 #[.agg r.cs, fv fNon, .agg p.cs] w fun e w' => e = .returned (.tuple #[.agg (exq fNon r p).1.cs, .agg (exq fNon r p).2.cs]) ∧ Below w.heap.size w w' := by
  obtain ⟨kd, te, qu, vo, bl, no, di, wr, sa, da⟩ := r
  obtain ⟨n, t, q, m, c⟩ := p
  show Calls Tryz.prog 61 #[.agg #[.int .i64 kd, .int .i64 te, .int .i64 qu, .int .i64 vo, .int .i64 bl, .int .i64 no, .string di, .string wr, .string sa, .string da], .iface 126 (.agg #[.int .i64 4, .int .i64 0, .int .i64 4294967295]), .agg #[.int .i64 n, .string t, .slice q m c]] w fun e w' => e = .returned (.tuple #[.agg #[.int .i64 kd, .int .i64 te, .int .i64 qu, .int .i64 vo, .int .i64 bl, .int .i64 n, .string di, .string wr, .string sa, .string da], .agg #[.int .i64 no, .string ⟨#[]⟩, .slice none 0 0]]) ∧ Below w.heap.size w w'
  have k0 := ta_nonce_tenant
  have k1 := ta_nonce_quota
  have k2 := ta_nonce_volume
  have k3 := ta_nonce_block
  have k4 := ta_nonce_nonce
  go_enter Tryz.func61, Tryz.ntmps61
  go_wp2
  go_region
  all_goals (try go_wp2)
  all_goals (try go_region)
  all_goals (try go_wp2)
  all_goals (try simp only [Exit.inBlock, Exit.then])
  all_goals (refine bodyPost_ret (by simp [results, Tryz.results61, go_sem]; try rfl) rfl ?_)
  all_goals (exact ⟨rfl, by go_grown⟩)
set_option maxHeartbeats 4000000 in
theorem exq_digest (r : Req) (p : Prt) (w : World) : Calls Tryz.prog 61 #[.agg r.cs, fv fDig, .agg p.cs] w fun e w' => e = .returned (.tuple #[.agg (exq fDig r p).1.cs, .agg (exq fDig r p).2.cs]) ∧ Below w.heap.size w w' := by
  obtain ⟨kd, te, qu, vo, bl, no, di, wr, sa, da⟩ := r
  obtain ⟨n, t, q, m, c⟩ := p
  show Calls Tryz.prog 61 #[.agg #[.int .i64 kd, .int .i64 te, .int .i64 qu, .int .i64 vo, .int .i64 bl, .int .i64 no, .string di, .string wr, .string sa, .string da], .iface 130 (.agg #[.int .i64 32]), .agg #[.int .i64 n, .string t, .slice q m c]] w fun e w' => e = .returned (.tuple #[.agg #[.int .i64 kd, .int .i64 te, .int .i64 qu, .int .i64 vo, .int .i64 bl, .int .i64 no, .string t, .string wr, .string sa, .string da], .agg #[.int .i64 0, .string di, .slice none 0 0]]) ∧ Below w.heap.size w w'
  have k0 := ta_digest_tenant
  have k1 := ta_digest_quota
  have k2 := ta_digest_volume
  have k3 := ta_digest_block
  have k4 := ta_digest_nonce
  have k5 := ta_digest_digest
  go_enter Tryz.func61, Tryz.ntmps61
  go_wp2
  go_region
  all_goals (try go_wp2)
  all_goals (try go_region)
  all_goals (try go_wp2)
  all_goals (try simp only [Exit.inBlock, Exit.then])
  all_goals (refine bodyPost_ret (by simp [results, Tryz.results61, go_sem]; try rfl) rfl ?_)
  all_goals (exact ⟨rfl, by go_grown⟩)
set_option maxHeartbeats 4000000 in
theorem exq_wrapped (r : Req) (p : Prt) (w : World) : Calls Tryz.prog 61 #[.agg r.cs, fv fWra, .agg p.cs] w fun e w' => e = .returned (.tuple #[.agg (exq fWra r p).1.cs, .agg (exq fWra r p).2.cs]) ∧ Below w.heap.size w w' := by
  obtain ⟨kd, te, qu, vo, bl, no, di, wr, sa, da⟩ := r
  obtain ⟨n, t, q, m, c⟩ := p
  show Calls Tryz.prog 61 #[.agg #[.int .i64 kd, .int .i64 te, .int .i64 qu, .int .i64 vo, .int .i64 bl, .int .i64 no, .string di, .string wr, .string sa, .string da], .iface 131 (.agg #[.int .i64 48]), .agg #[.int .i64 n, .string t, .slice q m c]] w fun e w' => e = .returned (.tuple #[.agg #[.int .i64 kd, .int .i64 te, .int .i64 qu, .int .i64 vo, .int .i64 bl, .int .i64 no, .string di, .string t, .string sa, .string da], .agg #[.int .i64 0, .string wr, .slice none 0 0]]) ∧ Below w.heap.size w w'
  have k0 := ta_wrapped_tenant
  have k1 := ta_wrapped_quota
  have k2 := ta_wrapped_volume
  have k3 := ta_wrapped_block
  have k4 := ta_wrapped_nonce
  have k5 := ta_wrapped_digest
  have k6 := ta_wrapped_wrapped
  go_enter Tryz.func61, Tryz.ntmps61
  go_wp2
  go_region
  all_goals (try go_wp2)
  all_goals (try go_region)
  all_goals (try go_wp2)
  all_goals (try simp only [Exit.inBlock, Exit.then])
  all_goals (refine bodyPost_ret (by simp [results, Tryz.results61, go_sem]; try rfl) rfl ?_)
  all_goals (exact ⟨rfl, by go_grown⟩)
set_option maxHeartbeats 4000000 in
theorem exq_sample (r : Req) (p : Prt) (w : World) : Calls Tryz.prog 61 #[.agg r.cs, fv fSam, .agg p.cs] w fun e w' => e = .returned (.tuple #[.agg (exq fSam r p).1.cs, .agg (exq fSam r p).2.cs]) ∧ Below w.heap.size w w' := by
  obtain ⟨kd, te, qu, vo, bl, no, di, wr, sa, da⟩ := r
  obtain ⟨n, t, q, m, c⟩ := p
  show Calls Tryz.prog 61 #[.agg #[.int .i64 kd, .int .i64 te, .int .i64 qu, .int .i64 vo, .int .i64 bl, .int .i64 no, .string di, .string wr, .string sa, .string da], .iface 132 (.agg #[.int .i64 8]), .agg #[.int .i64 n, .string t, .slice q m c]] w fun e w' => e = .returned (.tuple #[.agg #[.int .i64 kd, .int .i64 te, .int .i64 qu, .int .i64 vo, .int .i64 bl, .int .i64 no, .string di, .string wr, .string t, .string da], .agg #[.int .i64 0, .string sa, .slice none 0 0]]) ∧ Below w.heap.size w w'
  have k0 := ta_sample_tenant
  have k1 := ta_sample_quota
  have k2 := ta_sample_volume
  have k3 := ta_sample_block
  have k4 := ta_sample_nonce
  have k5 := ta_sample_digest
  have k6 := ta_sample_wrapped
  have k7 := ta_sample_sample
  go_enter Tryz.func61, Tryz.ntmps61
  go_wp2
  go_region
  all_goals (try go_wp2)
  all_goals (try go_region)
  all_goals (try go_wp2)
  all_goals (try simp only [Exit.inBlock, Exit.then])
  all_goals (refine bodyPost_ret (by simp [results, Tryz.results61, go_sem]; try rfl) rfl ?_)
  all_goals (exact ⟨rfl, by go_grown⟩)
set_option maxHeartbeats 4000000 in
theorem exq_data (r : Req) (p : Prt) (w : World) : Calls Tryz.prog 61 #[.agg r.cs, fv fDat, .agg p.cs] w fun e w' => e = .returned (.tuple #[.agg (exq fDat r p).1.cs, .agg (exq fDat r p).2.cs]) ∧ Below w.heap.size w w' := by
  obtain ⟨kd, te, qu, vo, bl, no, di, wr, sa, da⟩ := r
  obtain ⟨n, t, q, m, c⟩ := p
  show Calls Tryz.prog 61 #[.agg #[.int .i64 kd, .int .i64 te, .int .i64 qu, .int .i64 vo, .int .i64 bl, .int .i64 no, .string di, .string wr, .string sa, .string da], .iface 133 (.agg #[.int .i64 256]), .agg #[.int .i64 n, .string t, .slice q m c]] w fun e w' => e = .returned (.tuple #[.agg #[.int .i64 kd, .int .i64 te, .int .i64 qu, .int .i64 vo, .int .i64 bl, .int .i64 no, .string di, .string wr, .string sa, .string t], .agg #[.int .i64 0, .string da, .slice none 0 0]]) ∧ Below w.heap.size w w'
  have k0 := ta_data_tenant
  have k1 := ta_data_quota
  have k2 := ta_data_volume
  have k3 := ta_data_block
  have k4 := ta_data_nonce
  have k5 := ta_data_digest
  have k6 := ta_data_wrapped
  have k7 := ta_data_sample
  have k8 := ta_data_data
  go_enter Tryz.func61, Tryz.ntmps61
  go_wp2
  go_region
  all_goals (try go_wp2)
  all_goals (try go_region)
  all_goals (try go_wp2)
  all_goals (try simp only [Exit.inBlock, Exit.then])
  all_goals (refine bodyPost_ret (by simp [results, Tryz.results61, go_sem]; try rfl) rfl ?_)
  all_goals (exact ⟨rfl, by go_grown⟩)
theorem exq_any (f : Fld) (hf : IsQ f) (r : Req) (p : Prt) (w : World) : Calls Tryz.prog 61 #[.agg r.cs, fv f, .agg p.cs] w fun e w' => e = .returned (.tuple #[.agg (exq f r p).1.cs, .agg (exq f r p).2.cs]) ∧ Below w.heap.size w w' := by
  rcases hf with rfl | rfl | rfl | rfl | rfl | rfl | rfl | rfl | rfl
  · exact exq_tenant r p w
  · exact exq_quota r p w
  · exact exq_volume r p w
  · exact exq_block r p w
  · exact exq_nonce r p w
  · exact exq_digest r p w
  · exact exq_wrapped r p w
  · exact exq_sample r p w
  · exact exq_data r p w
set_option maxHeartbeats 4000000 in
theorem exr_quota (r : Rep) (p : Prt) (w : World) : Calls Tryz.prog 68 #[.agg r.cs, fv fQuo, .agg p.cs] w fun e w' => e = .returned (.tuple #[.agg (exr fQuo r p).1.cs, .agg (exr fQuo r p).2.cs]) ∧ Below w.heap.size w w' := by
  obtain ⟨st, qu, ch, vp, vm, vc, no, pp, pm, pc, wr, da⟩ := r
  obtain ⟨n, t, q, m, c⟩ := p
  show Calls Tryz.prog 68 #[.agg #[.int .i64 st, .int .i64 qu, .int .i64 ch, .slice vp vm vc, .int .i64 no, .slice pp pm pc, .string wr, .string da], .iface 122 (.agg #[.int .i64 2, .int .i64 0, .int .i64 65535]), .agg #[.int .i64 n, .string t, .slice q m c]] w fun e w' => e = .returned (.tuple #[.agg #[.int .i64 st, .int .i64 n, .int .i64 ch, .slice vp vm vc, .int .i64 no, .slice pp pm pc, .string wr, .string da], .agg #[.int .i64 qu, .string ⟨#[]⟩, .slice none 0 0]]) ∧ Below w.heap.size w w'
  have k0 := ta_quota_quota
  go_enter Tryz.func68, Tryz.ntmps68
  go_wp2
  go_region
  all_goals (try go_wp2)
  all_goals (try go_region)
  all_goals (try go_wp2)
  all_goals (try simp only [Exit.inBlock, Exit.then])
  all_goals (refine bodyPost_ret (by simp [results, Tryz.results68, go_sem]; try rfl) rfl ?_)
  all_goals (exact ⟨rfl, by go_grown⟩)
set_option maxHeartbeats 4000000 in
theorem exr_charge (r : Rep) (p : Prt) (w : World) : Calls Tryz.prog 68 #[.agg r.cs, fv fCha, .agg p.cs] w fun e w' => e = .returned (.tuple #[.agg (exr fCha r p).1.cs, .agg (exr fCha r p).2.cs]) ∧ Below w.heap.size w w' := by
  obtain ⟨st, qu, ch, vp, vm, vc, no, pp, pm, pc, wr, da⟩ := r
  obtain ⟨n, t, q, m, c⟩ := p
  show Calls Tryz.prog 68 #[.agg #[.int .i64 st, .int .i64 qu, .int .i64 ch, .slice vp vm vc, .int .i64 no, .slice pp pm pc, .string wr, .string da], .iface 123 (.agg #[.int .i64 2, .int .i64 0, .int .i64 65535]), .agg #[.int .i64 n, .string t, .slice q m c]] w fun e w' => e = .returned (.tuple #[.agg #[.int .i64 st, .int .i64 qu, .int .i64 n, .slice vp vm vc, .int .i64 no, .slice pp pm pc, .string wr, .string da], .agg #[.int .i64 ch, .string ⟨#[]⟩, .slice none 0 0]]) ∧ Below w.heap.size w w'
  have k0 := ta_charge_quota
  have k1 := ta_charge_charge
  go_enter Tryz.func68, Tryz.ntmps68
  go_wp2
  go_region
  all_goals (try go_wp2)
  all_goals (try go_region)
  all_goals (try go_wp2)
  all_goals (try simp only [Exit.inBlock, Exit.then])
  all_goals (refine bodyPost_ret (by simp [results, Tryz.results68, go_sem]; try rfl) rfl ?_)
  all_goals (exact ⟨rfl, by go_grown⟩)
set_option maxHeartbeats 4000000 in
theorem exr_volumes (r : Rep) (p : Prt) (w : World) : Calls Tryz.prog 68 #[.agg r.cs, fv fVos, .agg p.cs] w fun e w' => e = .returned (.tuple #[.agg (exr fVos r p).1.cs, .agg (exr fVos r p).2.cs]) ∧ Below w.heap.size w w' := by
  obtain ⟨st, qu, ch, vp, vm, vc, no, pp, pm, pc, wr, da⟩ := r
  obtain ⟨n, t, q, m, c⟩ := p
  show Calls Tryz.prog 68 #[.agg #[.int .i64 st, .int .i64 qu, .int .i64 ch, .slice vp vm vc, .int .i64 no, .slice pp pm pc, .string wr, .string da], .iface 136 (.agg #[]), .agg #[.int .i64 n, .string t, .slice q m c]] w fun e w' => e = .returned (.tuple #[.agg #[.int .i64 st, .int .i64 qu, .int .i64 ch, .slice q m c, .int .i64 no, .slice pp pm pc, .string wr, .string da], .agg #[.int .i64 0, .string ⟨#[]⟩, .slice vp vm vc]]) ∧ Below w.heap.size w w'
  have k0 := ta_volumes_quota
  have k1 := ta_volumes_charge
  have k2 := ta_volumes_volumes
  go_enter Tryz.func68, Tryz.ntmps68
  go_wp2
  go_region
  all_goals (try go_wp2)
  all_goals (try go_region)
  all_goals (try go_wp2)
  all_goals (try simp only [Exit.inBlock, Exit.then])
  all_goals (refine bodyPost_ret (by simp [results, Tryz.results68, go_sem]; try rfl) rfl ?_)
  all_goals (exact ⟨rfl, by go_grown⟩)
set_option maxHeartbeats 4000000 in
theorem exr_nonce (r : Rep) (p : Prt) (w : World) : Calls Tryz.prog 68 #[.agg r.cs, fv fNon, .agg p.cs] w fun e w' => e = .returned (.tuple #[.agg (exr fNon r p).1.cs, .agg (exr fNon r p).2.cs]) ∧ Below w.heap.size w w' := by
  obtain ⟨st, qu, ch, vp, vm, vc, no, pp, pm, pc, wr, da⟩ := r
  obtain ⟨n, t, q, m, c⟩ := p
  show Calls Tryz.prog 68 #[.agg #[.int .i64 st, .int .i64 qu, .int .i64 ch, .slice vp vm vc, .int .i64 no, .slice pp pm pc, .string wr, .string da], .iface 126 (.agg #[.int .i64 4, .int .i64 0, .int .i64 4294967295]), .agg #[.int .i64 n, .string t, .slice q m c]] w fun e w' => e = .returned (.tuple #[.agg #[.int .i64 st, .int .i64 qu, .int .i64 ch, .slice vp vm vc, .int .i64 n, .slice pp pm pc, .string wr, .string da], .agg #[.int .i64 no, .string ⟨#[]⟩, .slice none 0 0]]) ∧ Below w.heap.size w w'
  have k0 := ta_nonce_quota
  have k1 := ta_nonce_charge
  have k2 := ta_nonce_volumes
  have k3 := ta_nonce_nonce
  go_enter Tryz.func68, Tryz.ntmps68
  go_wp2
  go_region
  all_goals (try go_wp2)
  all_goals (try go_region)
  all_goals (try go_wp2)
  all_goals (try simp only [Exit.inBlock, Exit.then])
  all_goals (refine bodyPost_ret (by simp [results, Tryz.results68, go_sem]; try rfl) rfl ?_)
  all_goals (exact ⟨rfl, by go_grown⟩)
set_option maxHeartbeats 4000000 in
theorem exr_places (r : Rep) (p : Prt) (w : World) : Calls Tryz.prog 68 #[.agg r.cs, fv fPla, .agg p.cs] w fun e w' => e = .returned (.tuple #[.agg (exr fPla r p).1.cs, .agg (exr fPla r p).2.cs]) ∧ Below w.heap.size w w' := by
  obtain ⟨st, qu, ch, vp, vm, vc, no, pp, pm, pc, wr, da⟩ := r
  obtain ⟨n, t, q, m, c⟩ := p
  show Calls Tryz.prog 68 #[.agg #[.int .i64 st, .int .i64 qu, .int .i64 ch, .slice vp vm vc, .int .i64 no, .slice pp pm pc, .string wr, .string da], .iface 135 (.agg #[]), .agg #[.int .i64 n, .string t, .slice q m c]] w fun e w' => e = .returned (.tuple #[.agg #[.int .i64 st, .int .i64 qu, .int .i64 ch, .slice vp vm vc, .int .i64 no, .slice q m c, .string wr, .string da], .agg #[.int .i64 0, .string ⟨#[]⟩, .slice pp pm pc]]) ∧ Below w.heap.size w w'
  have k0 := ta_places_quota
  have k1 := ta_places_charge
  have k2 := ta_places_volumes
  have k3 := ta_places_nonce
  have k4 := ta_places_places
  go_enter Tryz.func68, Tryz.ntmps68
  go_wp2
  go_region
  all_goals (try go_wp2)
  all_goals (try go_region)
  all_goals (try go_wp2)
  all_goals (try simp only [Exit.inBlock, Exit.then])
  all_goals (refine bodyPost_ret (by simp [results, Tryz.results68, go_sem]; try rfl) rfl ?_)
  all_goals (exact ⟨rfl, by go_grown⟩)
set_option maxHeartbeats 4000000 in
theorem exr_wrapped (r : Rep) (p : Prt) (w : World) : Calls Tryz.prog 68 #[.agg r.cs, fv fWra, .agg p.cs] w fun e w' => e = .returned (.tuple #[.agg (exr fWra r p).1.cs, .agg (exr fWra r p).2.cs]) ∧ Below w.heap.size w w' := by
  obtain ⟨st, qu, ch, vp, vm, vc, no, pp, pm, pc, wr, da⟩ := r
  obtain ⟨n, t, q, m, c⟩ := p
  show Calls Tryz.prog 68 #[.agg #[.int .i64 st, .int .i64 qu, .int .i64 ch, .slice vp vm vc, .int .i64 no, .slice pp pm pc, .string wr, .string da], .iface 131 (.agg #[.int .i64 48]), .agg #[.int .i64 n, .string t, .slice q m c]] w fun e w' => e = .returned (.tuple #[.agg #[.int .i64 st, .int .i64 qu, .int .i64 ch, .slice vp vm vc, .int .i64 no, .slice pp pm pc, .string t, .string da], .agg #[.int .i64 0, .string wr, .slice none 0 0]]) ∧ Below w.heap.size w w'
  have k0 := ta_wrapped_quota
  have k1 := ta_wrapped_charge
  have k2 := ta_wrapped_volumes
  have k3 := ta_wrapped_nonce
  have k4 := ta_wrapped_places
  have k5 := ta_wrapped_wrapped
  go_enter Tryz.func68, Tryz.ntmps68
  go_wp2
  go_region
  all_goals (try go_wp2)
  all_goals (try go_region)
  all_goals (try go_wp2)
  all_goals (try simp only [Exit.inBlock, Exit.then])
  all_goals (refine bodyPost_ret (by simp [results, Tryz.results68, go_sem]; try rfl) rfl ?_)
  all_goals (exact ⟨rfl, by go_grown⟩)
set_option maxHeartbeats 4000000 in
theorem exr_data (r : Rep) (p : Prt) (w : World) : Calls Tryz.prog 68 #[.agg r.cs, fv fDat, .agg p.cs] w fun e w' => e = .returned (.tuple #[.agg (exr fDat r p).1.cs, .agg (exr fDat r p).2.cs]) ∧ Below w.heap.size w w' := by
  obtain ⟨st, qu, ch, vp, vm, vc, no, pp, pm, pc, wr, da⟩ := r
  obtain ⟨n, t, q, m, c⟩ := p
  show Calls Tryz.prog 68 #[.agg #[.int .i64 st, .int .i64 qu, .int .i64 ch, .slice vp vm vc, .int .i64 no, .slice pp pm pc, .string wr, .string da], .iface 133 (.agg #[.int .i64 256]), .agg #[.int .i64 n, .string t, .slice q m c]] w fun e w' => e = .returned (.tuple #[.agg #[.int .i64 st, .int .i64 qu, .int .i64 ch, .slice vp vm vc, .int .i64 no, .slice pp pm pc, .string wr, .string t], .agg #[.int .i64 0, .string da, .slice none 0 0]]) ∧ Below w.heap.size w w'
  have k0 := ta_data_quota
  have k1 := ta_data_charge
  have k2 := ta_data_volumes
  have k3 := ta_data_nonce
  have k4 := ta_data_places
  have k5 := ta_data_wrapped
  have k6 := ta_data_data
  go_enter Tryz.func68, Tryz.ntmps68
  go_wp2
  go_region
  all_goals (try go_wp2)
  all_goals (try go_region)
  all_goals (try go_wp2)
  all_goals (try simp only [Exit.inBlock, Exit.then])
  all_goals (refine bodyPost_ret (by simp [results, Tryz.results68, go_sem]; try rfl) rfl ?_)
  all_goals (exact ⟨rfl, by go_grown⟩)
theorem exr_any (f : Fld) (hf : IsP f) (r : Rep) (p : Prt) (w : World) : Calls Tryz.prog 68 #[.agg r.cs, fv f, .agg p.cs] w fun e w' => e = .returned (.tuple #[.agg (exr f r p).1.cs, .agg (exr f r p).2.cs]) ∧ Below w.heap.size w w' := by
  rcases hf with rfl | rfl | rfl | rfl | rfl | rfl | rfl
  · exact exr_quota r p w
  · exact exr_charge r p w
  · exact exr_volumes r p w
  · exact exr_nonce r p w
  · exact exr_places r p w
  · exact exr_wrapped r p w
  · exact exr_data r p w
end Go.Proofs.YtclgkgaobjcifaaGreatDoor
