/-
  The document's own answer: an address that is good.
-/
import Derived.Test.YtkmnnkklbgnfpaaAd2
namespace Go.Proofs.Ytkmnnkklbgnfpaa
open Go.RowKit
set_option linter.unusedVariables false
attribute [local go_sem ↓] bld_addr bld_b16 ld_addr st_addr ld_b16
attribute [local go_sem] ldr_addr str_addr ldr_b16

/-- An address of four bytes has zeros behind them. -/
def ownK (v : Bool) (l : List UInt8) (k : Nat) : List UInt8 := if v then l else l.take 4 ++ (List.replicate (k - 4) 0 ++ l.drop k)
def ownV (v : Bool) (l : List UInt8) : List UInt8 := ownK v l 16
theorem ownK_length (v : Bool) (l : List UInt8) (hl : l.length = 16) (k : Nat) (h4 : 4 ≤ k) (h16 : k ≤ 16) : (ownK v l k).length = 16 := by
  cases v <;> simp [ownK] <;> omega
theorem ownV_length (v : Bool) (l : List UInt8) (hl : l.length = 16) : (ownV v l).length = 16 := ownK_length v l hl 16 (by omega) (by omega)
theorem ownK_start (v : Bool) (l : List UInt8) : ownK v l 4 = l := by cases v <;> simp [ownK]
theorem ownK_step (l : List UInt8) (hl : l.length = 16) (k : Nat) (h4 : 4 ≤ k) (h16 : k < 16) : (ownK false l k).set k 0 = ownK false l (k + 1) := by
  have h0 : l.drop k = l[k] :: l.drop (k + 1) := List.drop_eq_getElem_cons (by omega)
  simp only [ownK, Bool.false_eq_true, if_false]
  rw [List.set_append_right _ _ (by simp; omega), List.set_append_right _ _ (by simp; omega), h0]
  rw [show k - (l.take 4).length - (List.replicate (k - 4) (0 : UInt8)).length = 0 by simp; omega, List.set_cons_zero]
  rw [show k + 1 - 4 = (k - 4) + 1 by omega, List.replicate_succ']
  simp
/-- The two objects on the way. -/
def OwS (w wr : World) (v : Bool) (l : List UInt8) (k : Nat) : Prop :=
  ObjAt wr w.heap.size (addrC v (ownK v l k)).toArray 24 ∧ ObjAt wr (w.heap.size + 1) (addrC false (List.replicate 16 0)).toArray 24 ∧ Below w.heap.size w wr
theorem OwS.start (w : World) (v : Bool) (l : List UInt8) : OwS w ((w.alloc (.cells (addrC v l).toArray 24)).alloc (.cells #[.bool false, .int .u8 0, .int .u8 0, .int .u8 0, .int .u8 0, .int .u8 0, .int .u8 0, .int .u8 0, .int .u8 0, .int .u8 0, .int .u8 0, .int .u8 0, .int .u8 0, .int .u8 0, .int .u8 0, .int .u8 0, .int .u8 0] 24)) v l 4 := by
  have h0 := (ObjAt.made w (addrC v l).toArray 24).alloc (.cells #[.bool false, .int .u8 0, .int .u8 0, .int .u8 0, .int .u8 0, .int .u8 0, .int .u8 0, .int .u8 0, .int .u8 0, .int .u8 0, .int .u8 0, .int .u8 0, .int .u8 0, .int .u8 0, .int .u8 0, .int .u8 0, .int .u8 0] 24)
  have h1 := ObjAt.made (w.alloc (.cells (addrC v l).toArray 24)) #[.bool false, .int .u8 0, .int .u8 0, .int .u8 0, .int .u8 0, .int .u8 0, .int .u8 0, .int .u8 0, .int .u8 0, .int .u8 0, .int .u8 0, .int .u8 0, .int .u8 0, .int .u8 0, .int .u8 0, .int .u8 0, .int .u8 0] 24
  rw [show (w.alloc (.cells (addrC v l).toArray 24)).heap.size = w.heap.size + 1 by simp] at h1
  refine ⟨?_, h1, ((Below.refl _ _).alloc (Nat.le_refl _) _).alloc (by simp) _⟩
  rw [ownK_start]; exact h0
theorem OwS.cell0 {w wr : World} {v : Bool} {l : List UInt8} {k : Nat} (h : OwS w wr v l k) : wr.cell? ⟨w.heap.size, 0, none⟩ = some (.bool v) := by
  rw [h.1.cell]; rfl
theorem OwS.cell {w wr : World} {v : Bool} {l : List UInt8} {k : Nat} (h : OwS w wr v l k) (hl : l.length = 16) (h4 : 4 ≤ k) (hk : k < 16) : ∃ x, wr.cell? ⟨w.heap.size, 1 + k, none⟩ = some x := by
  have : (addrC v (ownK v l k)).length = 17 := by rw [addrC_length, ownK_length v l hl k h4 (by omega)]
  exact ⟨_, (h.1.cell (1 + k)).trans (by rw [List.getElem?_toArray]; exact List.getElem?_eq_getElem (by omega))⟩
theorem OwS.frz {w wr : World} {v : Bool} {l : List UInt8} {k : Nat} (h : OwS w wr v l k) : wr.frozen? ⟨w.heap.size, 1 + k, none⟩ = false := h.1.free _
theorem OwS.step {w wr : World} {l : List UInt8} {k : Nat} (h : OwS w wr false l k) (hl : l.length = 16) (h4 : 4 ≤ k) (hk : k < 16) : OwS w (wr.setCell ⟨w.heap.size, 1 + k, none⟩ (.int .u8 0)) false l (k + 1) := by
  obtain ⟨h1, h2, h3⟩ := h
  refine ⟨?_, ObjAt.other h2 ⟨w.heap.size, 1 + k, none⟩ _ (by simp), h3.setCell (p := ⟨w.heap.size, 1 + k, none⟩) (Nat.le_refl _) _⟩
  have o1 := h1.set (1 + k) (.int .u8 0)
  have e : (addrC false (ownK false l k)).toArray.setIfInBounds (1 + k) (.int .u8 0) = (addrC false ((ownK false l k).set k 0)).toArray := by
    apply Array.ext'
    rw [Array.toList_setIfInBounds]
    show (Value.bool false :: B8 (ownK false l k)).set (1 + k) _ = Value.bool false :: B8 ((ownK false l k).set k 0)
    rw [Nat.add_comm, List.set_cons_succ]
    unfold B8
    rw [List.map_set]
    rfl
  rw [e, ownK_step l hl k h4 hk] at o1
  exact o1
theorem OwS.skip {w wr : World} {l : List UInt8} {k : Nat} (h : OwS w wr true l k) : OwS w wr true l (k + 1) := h
theorem OwS.row {w wr : World} {v : Bool} {l : List UInt8} (h : OwS w wr v l 16) (hl : l.length = 16) : row? wr w.heap.size 0 17 = some (addrC v (ownV v l)) :=
  obj_row (A := []) (M := addrC v (ownV v l)) (C := []) (by simpa [ownV] using h.1) rfl (by rw [addrC_length, ownV_length v l hl])
theorem OwS.free {w wr : World} {v : Bool} {l : List UInt8} {k : Nat} (h : OwS w wr v l k) : free? wr (w.heap.size + 1) 0 17 = true := obj_free (n := 17) h.2.1 (by simp [addrC_length])
theorem OwS.done {w wr : World} {v : Bool} {l : List UInt8} {k : Nat} (h : OwS w wr v l k) (hl : l.length = 16) : row? (aggW wr (w.heap.size + 1) (addrC v (ownV v l))) (w.heap.size + 1) 0 17 = some (addrC v (ownV v l)) ∧ Below w.heap.size w (aggW wr (w.heap.size + 1) (addrC v (ownV v l))) :=
  ⟨aggW_row h.free (by rw [addrC_length, ownV_length v l hl]), aggW_below h.2.2 (by omega) _⟩

end Go.Proofs.Ytkmnnkklbgnfpaa
