/-
  What the library's tables and variables hold, carried along.
-/
import Derived.Test.YtmpikhpnkfnnoaaGreatDoorOct
import Derived.Lib.AppendIntMem
import Derived.Shelf.Spec.TrailingZeros
namespace Go.Proofs.YtmpikhpnkfnnoaaGreatDoor
open Go.RowKit
set_option linter.unusedVariables false

structure Env (w : World) : Prop where
  ml : ∃ m : Int, w.cell? ⟨0, 0, none⟩ = some (.int .i64 m)
  tab : Lib.TabIs Tryz.prog w "internal/strconv.uint64pow10" .u64 Lib.pow10Tab
  db : ∀ j, j < Lib.deBruijn64tab.length → w.cell? ⟨7, j, none⟩ = some (.int .u8 (Lib.deBruijn64tab.getD j 0))
  syn : ∃ te pe, w.cell? ⟨4, 0, none⟩ = some (.iface te pe)
  rng : ∃ te pe, w.cell? ⟨5, 0, none⟩ = some (.iface te pe)
theorem cell_in {w : World} {b o : Nat} {v : Value} (h : w.cell? ⟨b, o, none⟩ = some v) : b < w.heap.size := by
  by_cases hlt : b < w.heap.size
  · exact hlt
  · rw [World.cell?, Array.getElem?_eq_none (by simpa using hlt)] at h
    simp at h
theorem Env.below {w w' : World} (h : Env w) (hb : Below w.heap.size w w') : Env w' := by
  obtain ⟨⟨m, h1⟩, h2, h3, ⟨t4, p4, h4⟩, ⟨t5, p5, h5⟩⟩ := h
  refine ⟨⟨m, ?_⟩, Lib.tabBelow_of_tabIs h2 w' hb, fun j hj => ?_, ⟨t4, p4, ?_⟩, ⟨t5, p5, ?_⟩⟩
  · rw [hb.cell (p := ⟨_, _, none⟩) (cell_in h1)]; exact h1
  · rw [hb.cell (p := ⟨_, _, none⟩) (cell_in (h3 j hj))]; exact h3 j hj
  · rw [hb.cell (p := ⟨_, _, none⟩) (cell_in h4)]; exact h4
  · rw [hb.cell (p := ⟨_, _, none⟩) (cell_in h5)]; exact h5
/-- For a world that grew out of an elder one. -/
theorem Env.to {w W w' : World} (h : Env w) (hb : Below w.heap.size w W) : Env W := h.below hb
end Go.Proofs.YtmpikhpnkfnnoaaGreatDoor
