import Derived.Test.YtkmgbicacbalfaaRba
namespace Go.Proofs.Ytkmgbicacbalfaa
open Go.RowKit
/-- The program's Writer (the bytes l, the first fault e) is the document's (the text S, the same fault). -/
structure Sw (l : List Int) (e : Int) (S : ByteArray) : Prop where
  ok : e = 0 → S = strOfNums l
  bad : e ≠ 0 → l = []
/-- What the document's Writer has behind a call. -/
def sw (S : ByteArray) (err : Int) (out : List Int) : ByteArray := if err = 0 then S ++ strOfNums out else S
theorem Sw.step {l : List Int} {e : Int} {S : ByteArray} (h : Sw l e S) (err : Int) (out : List Int) : Sw (wl l e err out) (we e err) (sw S err out) := by
  by_cases he : e = 0
  · have hS := h.ok he
    subst he
    by_cases hr : err = 0
    · subst hr
      refine ⟨fun _ => ?_, fun q => absurd (by simp [we]) q⟩
      rw [sw, if_pos rfl, hS, wl, if_pos rfl, if_pos rfl, strOfNums_app]
    · refine ⟨fun q => absurd (by simpa [we] using q) hr, fun _ => ?_⟩
      rw [wl, if_pos rfl, if_neg hr]
  · have hl := h.bad he
    refine ⟨fun q => absurd (by simp [we, he] at q) he, fun _ => ?_⟩
    rw [wl, if_neg he, hl]
theorem Sw.told {l : List Int} {e : Int} {S : ByteArray} (h : Sw l e S) : strOfNums l = if e = 0 then S else ⟨#[]⟩ := by
  by_cases he : e = 0
  · rw [if_pos he, h.ok he]
  · rw [if_neg he, h.bad he]; rfl
end Go.Proofs.Ytkmgbicacbalfaa
