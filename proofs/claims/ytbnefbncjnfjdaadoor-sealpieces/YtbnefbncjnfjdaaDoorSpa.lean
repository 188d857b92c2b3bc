import Derived.Test.YtbnefbncjnfjdaaDoorItr
namespace Go.Proofs.YtbnefbncjnfjdaaDoor
open Go.RowKit Go.Shelf
attribute [local go_sem] Oper.semAt_some
theorem kp_b {Bk s : Nat} {w : World} (hs : s ≤ w.heap.size) (hB : Bk < w.heap.size) (W : World) (l : Nat) (o o' : Obj) (hl : w.heap.size ≤ l) (h : W.heap[l]? = some o) (_ : o.isCells = false) (_ : o.isWalk = false) : Kp Bk s W (W.putObj l o') :=
  ⟨belowK_b hs W l o o' hl h (by assumption) (by assumption), World.putObj_heap_other (by omega)⟩
theorem sums_stops (n Bf Bk s first : Nat) (key : ByteArray) (hkz : key.size ≤ 64) (hf : first ≤ 2048) (hs : 0 < s) (w : World)
    (hBf : Bf < w.heap.size) (hBk : Bk < w.heap.size) (hcf : w.cell? ⟨Bf, 0, none⟩ = some (.int .i64 (first : Int))) (hck : w.cell? ⟨Bk, 0, none⟩ = some (.string key)) (hK : KTab w) :
    SeqStopsK Fence.wide n Tryd.prog 55 #[.pointer (some ⟨Bf, 0, none⟩), .pointer (some ⟨Bk, 0, none⟩)] (fun i : Nat => #[.string (pieceB key i)]) (Kp Bk s) (fun xs => xs = List.range' first (2048 - first)) (fun pre => ∃ k, pre = List.range' first k) 2048 w := fun l J Jx W hW hJa _ hY h0 =>
  sums1_in n l Bf Bk s first key hkz hf hs J Jx W hJa hY ((hW.cell (p := ⟨Bf, 0, none⟩) hBf).trans hcf) ((hW.cell (p := ⟨Bk, 0, none⟩) hBk).trans hck) (Nat.lt_of_lt_of_le hBk hW.size) (hK.below hW hK.1) h0
set_option maxHeartbeats 400000 in
theorem sums_any (key : ByteArray) (first : Int) (w : World) :
    Calls Tryd.prog 44 #[.string key, .int .i64 first] w fun e w' => e = .returned (.func (.func 55) #[] #[.pointer (some ⟨w.heap.size + 1, 0, none⟩), .pointer (some ⟨w.heap.size, 0, none⟩)]) ∧
      w' = (w.alloc (.cells #[.string key] 9)).alloc (.cells #[.int .i64 first] 3) := by
  go_enter Tryd.func44, Tryd.ntmps44
  go_wp2
  go_ret
  exact ⟨rfl, rfl⟩
end Go.Proofs.YtbnefbncjnfjdaaDoor
