/-
  The document's own reading of an address.
-/
import Derived.Test.YtalnfjnfcloonaaDoorMg06
import Derived.Test.YtalnfjnfcloonaaDoorMg08
namespace Go.Proofs.YtalnfjnfcloonaaDoor
open Go.RowKit
set_option linter.unusedVariables false
attribute [local go_sem ↓] bld_addr bld_b16 bld_u8x ld_addr st_addr ld_b16 ld_u8x st_u8x
attribute [local go_sem] ldr_addr str_addr ldr_b16 ldr_u8x str_u8x

/-- The two objects while the bytes are laid down. -/
def RdS (w wr : World) (v : Bool) (s : List UInt8) (k : Nat) : Prop :=
  ObjAt wr w.heap.size (addrC false (List.replicate 16 0)).toArray 25 ∧ ObjAt wr (w.heap.size + 1) (addrC v (s.take k ++ List.replicate (16 - k) 0)).toArray 25 ∧ Below w.heap.size w wr
theorem addrC_set (v : Bool) (l : List UInt8) (k : Nat) (c : UInt8) : (addrC v l).toArray.setIfInBounds (1 + k) (.int .u8 (c.toNat : Int)) = (addrC v (l.set k c)).toArray := by
  apply Array.ext'
  rw [Array.toList_setIfInBounds]
  show (Value.bool v :: B8 l).set (1 + k) _ = Value.bool v :: B8 (l.set k c)
  rw [Nat.add_comm, List.set_cons_succ]
  unfold B8
  rw [List.map_set]
theorem RdS.step {w wr : World} {v : Bool} {s : List UInt8} {k : Nat} (h : RdS w wr v s k) (hk : k < s.length) (h16 : s.length ≤ 16) : RdS w (wr.setCell ⟨w.heap.size + 1, 1 + k, none⟩ (.int .u8 ((s[k]).toNat : Int))) v s (k + 1) := by
  obtain ⟨h1, h2, h3⟩ := h
  refine ⟨ObjAt.other h1 ⟨w.heap.size + 1, 1 + k, none⟩ _ (by simp), ?_, h3.setCell (p := ⟨w.heap.size + 1, 1 + k, none⟩) (by simp) _⟩
  have o1 := h2.set (1 + k) (.int .u8 ((s[k]).toNat : Int))
  rw [addrC_set] at o1
  have e : (s.take k ++ List.replicate (16 - k) 0).set k s[k] = s.take (k + 1) ++ List.replicate (16 - (k + 1)) 0 := by
    rw [List.set_append_right _ _ (by simp; omega), show 16 - k = (16 - (k + 1)) + 1 by omega, List.replicate_succ, show k - (s.take k).length = 0 by simp; omega, List.set_cons_zero]
    rw [List.take_succ_eq_append_getElem hk, List.append_assoc]
    rfl
  rw [e] at o1
  exact o1
theorem RdS.cell {w wr : World} {v : Bool} {s : List UInt8} {k : Nat} (h : RdS w wr v s k) (hk : k < s.length) (h16 : s.length ≤ 16) : wr.cell? ⟨w.heap.size + 1, 1 + k, none⟩ = some (.int .u8 0) := by
  rw [h.2.1.cell, List.getElem?_toArray]
  rw [show addrC v (s.take k ++ List.replicate (16 - k) 0) = .bool v :: B8 (s.take k ++ List.replicate (16 - k) 0) from rfl, Nat.add_comm, List.getElem?_cons_succ]
  unfold B8
  rw [List.getElem?_map, List.getElem?_append_right (by simp; omega)]
  simp
  have : k - min k s.length < 16 - k := by omega
  simp [this]
theorem RdS.row {w wr : World} {v : Bool} {s : List UInt8} {k : Nat} (h : RdS w wr v s k) (hk : k ≤ s.length) (h16 : s.length ≤ 16) : row? wr (w.heap.size + 1) 0 17 = some (addrC v (s.take k ++ List.replicate (16 - k) 0)) :=
  obj_row (A := []) (M := addrC v (s.take k ++ List.replicate (16 - k) 0)) (C := []) (by simpa using h.2.1) rfl (by rw [addrC_length]; simp; omega)
theorem RdS.free {w wr : World} {v : Bool} {s : List UInt8} {k : Nat} (h : RdS w wr v s k) : free? wr w.heap.size 0 17 = true := obj_free (n := 17) h.1 (by simp [addrC_length])
theorem RdS.start (w : World) (v : Bool) (s : List UInt8) : RdS w (aggW ((w.alloc (.cells #[.bool false, .int .u8 0, .int .u8 0, .int .u8 0, .int .u8 0, .int .u8 0, .int .u8 0, .int .u8 0, .int .u8 0, .int .u8 0, .int .u8 0, .int .u8 0, .int .u8 0, .int .u8 0, .int .u8 0, .int .u8 0, .int .u8 0] 25)).alloc (.cells #[.bool false, .int .u8 0, .int .u8 0, .int .u8 0, .int .u8 0, .int .u8 0, .int .u8 0, .int .u8 0, .int .u8 0, .int .u8 0, .int .u8 0, .int .u8 0, .int .u8 0, .int .u8 0, .int .u8 0, .int .u8 0, .int .u8 0] 25)) (w.heap.size + 1) [.bool v, .int .u8 0, .int .u8 0, .int .u8 0, .int .u8 0, .int .u8 0, .int .u8 0, .int .u8 0, .int .u8 0, .int .u8 0, .int .u8 0, .int .u8 0, .int .u8 0, .int .u8 0, .int .u8 0, .int .u8 0, .int .u8 0]) v s 0 := by
  have h0 := (ObjAt.made w #[.bool false, .int .u8 0, .int .u8 0, .int .u8 0, .int .u8 0, .int .u8 0, .int .u8 0, .int .u8 0, .int .u8 0, .int .u8 0, .int .u8 0, .int .u8 0, .int .u8 0, .int .u8 0, .int .u8 0, .int .u8 0, .int .u8 0] 25).alloc (.cells #[.bool false, .int .u8 0, .int .u8 0, .int .u8 0, .int .u8 0, .int .u8 0, .int .u8 0, .int .u8 0, .int .u8 0, .int .u8 0, .int .u8 0, .int .u8 0, .int .u8 0, .int .u8 0, .int .u8 0, .int .u8 0, .int .u8 0] 25)
  have h1 := ObjAt.made (w.alloc (.cells #[.bool false, .int .u8 0, .int .u8 0, .int .u8 0, .int .u8 0, .int .u8 0, .int .u8 0, .int .u8 0, .int .u8 0, .int .u8 0, .int .u8 0, .int .u8 0, .int .u8 0, .int .u8 0, .int .u8 0, .int .u8 0, .int .u8 0] 25)) #[.bool false, .int .u8 0, .int .u8 0, .int .u8 0, .int .u8 0, .int .u8 0, .int .u8 0, .int .u8 0, .int .u8 0, .int .u8 0, .int .u8 0, .int .u8 0, .int .u8 0, .int .u8 0, .int .u8 0, .int .u8 0, .int .u8 0] 25
  have hz : (w.alloc (.cells #[.bool false, .int .u8 0, .int .u8 0, .int .u8 0, .int .u8 0, .int .u8 0, .int .u8 0, .int .u8 0, .int .u8 0, .int .u8 0, .int .u8 0, .int .u8 0, .int .u8 0, .int .u8 0, .int .u8 0, .int .u8 0, .int .u8 0] 25)).heap.size = w.heap.size + 1 := by simp
  rw [hz] at h1
  have hb : Below w.heap.size w ((w.alloc (.cells #[.bool false, .int .u8 0, .int .u8 0, .int .u8 0, .int .u8 0, .int .u8 0, .int .u8 0, .int .u8 0, .int .u8 0, .int .u8 0, .int .u8 0, .int .u8 0, .int .u8 0, .int .u8 0, .int .u8 0, .int .u8 0, .int .u8 0] 25)).alloc (.cells #[.bool false, .int .u8 0, .int .u8 0, .int .u8 0, .int .u8 0, .int .u8 0, .int .u8 0, .int .u8 0, .int .u8 0, .int .u8 0, .int .u8 0, .int .u8 0, .int .u8 0, .int .u8 0, .int .u8 0, .int .u8 0, .int .u8 0] 25)) := ((Below.refl _ _).alloc (Nat.le_refl _) _).alloc (by simp) _
  exact ⟨aggW_other h0 _ (by omega), aggW_obj (cs := [.bool v, .int .u8 0, .int .u8 0, .int .u8 0, .int .u8 0, .int .u8 0, .int .u8 0, .int .u8 0, .int .u8 0, .int .u8 0, .int .u8 0, .int .u8 0, .int .u8 0, .int .u8 0, .int .u8 0, .int .u8 0, .int .u8 0]) h1 rfl (addrC_one v (List.replicate 16 0)), aggW_below hb (by omega) _⟩
theorem RdS.done {w wr : World} {v : Bool} {s : List UInt8} {k : Nat} (h : RdS w wr v s k) (cs : List Value) (hc : cs.length = 17) : row? (aggW wr w.heap.size cs) w.heap.size 0 17 = some cs ∧ Below w.heap.size w (aggW wr w.heap.size cs) :=
  ⟨aggW_row h.free hc, aggW_below h.2.2 (Nat.le_refl _) _⟩
end Go.Proofs.YtalnfjnfcloonaaDoor
