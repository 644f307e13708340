/-
  The contract of addr.Good.
-/
import Derived.Test.YtkmnnkklbgnfpaaAd2
import Derived.Test.YtkmnnkklbgnfpaaEqA
import Derived.Test.YtkmnnkklbgnfpaaOwn
import Derived.BigQuiet
import Derived.Deep.QuietTactic
import Derived.Deep.RegionHeld3
namespace Go.Proofs.Ytkmnnkklbgnfpaa
open Go.RowKit
set_option linter.unusedVariables false
attribute [local go_sem ↓] ld_b16
attribute [local go_sem] ldr_b16

/-- Is it good? -/
def goodV (v : Bool) (l : List UInt8) : Bool := v || decide (l = ownV v l)
/-- What the region reads. -/
def GoA (w W : World) (l : List UInt8) : Prop :=
  row? W w.heap.size 1 16 = some (B8 l) ∧ W.cell? ⟨w.heap.size, 1, none⟩ = some (.int .u8 ((l.getD 0 0).toNat : Int)) ∧ W.cell? ⟨w.heap.size, 2, none⟩ = some (.int .u8 ((l.getD 1 0).toNat : Int)) ∧ W.cell? ⟨w.heap.size, 3, none⟩ = some (.int .u8 ((l.getD 2 0).toNat : Int)) ∧ W.cell? ⟨w.heap.size, 4, none⟩ = some (.int .u8 ((l.getD 3 0).toNat : Int)) ∧ w.heap.size < W.heap.size ∧ Below w.heap.size w W
theorem GoA.below {w W W' : World} {l : List UInt8} (h : GoA w W l) (hb : Below W.heap.size W W') : GoA w W' l := by
  obtain ⟨h1, h2, h3, h4, h5, h6, h7⟩ := h
  have c : ∀ o, W'.cell? ⟨w.heap.size, o, none⟩ = W.cell? ⟨w.heap.size, o, none⟩ := fun o => hb.cell (p := ⟨w.heap.size, o, none⟩) h6
  exact ⟨row?_below h1 h6 hb, (c _).trans h2, (c _).trans h3, (c _).trans h4, (c _).trans h5, Nat.lt_of_lt_of_le h6 hb.size, bstep h7 hb⟩
theorem GoA.drew {w W : World} {l : List UInt8} (h : GoA w W l) : GoA w W.drew l := ⟨h.1, h.2.1, h.2.2.1, h.2.2.2.1, h.2.2.2.2.1, h.2.2.2.2.2.1, h.2.2.2.2.2.2.drew⟩
theorem GoA.made (w : World) (v : Bool) (l : List UInt8) (hl : l.length = 16) : GoA w (w.alloc (.cells (addrC v l).toArray 24)) l := by
  have o := ObjAt.made w (addrC v l).toArray 24
  have c : ∀ i (h : i < 16), (w.alloc (.cells (addrC v l).toArray 24)).cell? ⟨w.heap.size, i + 1, none⟩ = some (.int .u8 ((l.getD i 0).toNat : Int)) := fun i h => by
    rw [o.cell, List.getElem?_toArray]
    show (Value.bool v :: B8 l)[i + 1]? = _
    rw [List.getElem?_cons_succ]
    unfold B8
    rw [List.getElem?_map, List.getElem?_eq_getElem (by omega), List.getD_eq_getElem?_getD, List.getElem?_eq_getElem (by omega)]
    rfl
  exact ⟨obj_row (A := [.bool v]) (M := B8 l) (C := []) (by simpa [addrC] using o) rfl (by rw [B8_length, hl]), c 0 (by omega), c 1 (by omega), c 2 (by omega), c 3 (by omega), o.lt, (Below.refl _ _).alloc (Nat.le_refl _) _⟩

end Go.Proofs.Ytkmnnkklbgnfpaa
