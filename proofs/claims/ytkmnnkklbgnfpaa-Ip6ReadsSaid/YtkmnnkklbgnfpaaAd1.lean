/-
  Contracts of addr: small functions on one address.
-/
import Derived.Test.YtkmnnkklbgnfpaaAddr
import Derived.Test.YtkmnnkklbgnfpaaShAddr
import Derived.Test.YtkmnnkklbgnfpaaOctHex
import Derived.Deep.RegionHeld3
import Derived.Laws.Cover3
import Derived.Deep.Cut
import Derived.Test.YtkmnnkklbgnfpaaEqB
import Derived.Lib.Hide
namespace Go.Proofs.Ytkmnnkklbgnfpaa
open Go.RowKit
set_option linter.unusedVariables false

theorem list16 {l : List UInt8} (h : l.length = 16) : ∃ b0 b1 b2 b3 b4 b5 b6 b7 b8 b9 ba bb bc bd be bf, l = [b0, b1, b2, b3, b4, b5, b6, b7, b8, b9, ba, bb, bc, bd, be, bf] := by
  match l, h with
  | [b0, b1, b2, b3, b4, b5, b6, b7, b8, b9, ba, bb, bc, bd, be, bf], _ => exact ⟨b0, b1, b2, b3, b4, b5, b6, b7, b8, b9, ba, bb, bc, bd, be, bf, rfl⟩
theorem list6 {l : List UInt8} (h : l.length = 6) : ∃ b0 b1 b2 b3 b4 b5, l = [b0, b1, b2, b3, b4, b5] := by
  match l, h with
  | [b0, b1, b2, b3, b4, b5], _ => exact ⟨b0, b1, b2, b3, b4, b5, rfl⟩
/-- A byte of an address. -/
def bN (l : List UInt8) (i : Nat) : Int := ((l.getD i 0).toNat : Int)
/-- Whether it is a group's. -/
def grpV (v : Bool) (l : List UInt8) : Bool := if v then (bN l 0 == 255) else (decide (224 ≤ bN l 0) && decide (bN l 0 ≤ 239))
/-- Whether it begins with 224.0.0. -/
def linkV (l : List UInt8) : Bool := decide (bN l 0 = 224 ∧ bN l 1 = 0 ∧ bN l 2 = 0)
def scpV (v : Bool) (l : List UInt8) : Int :=
  if grpV v l = false then 0 else if v then bN l 1 % 16 else if linkV l then 2 else if bN l 0 = 239 ∧ bN l 1 = 255 then 3 else if bN l 0 = 239 ∧ 192 ≤ bN l 1 ∧ bN l 1 ≤ 195 then 8 else 14
def locV (v : Bool) (l : List UInt8) : Bool := if v then (grpV v l && decide (scpV v l ≤ 2)) else linkV l
def ssmV (v : Bool) (l : List UInt8) : Bool := if v then decide (bN l 0 = 255 ∧ 48 ≤ bN l 1 ∧ bN l 1 ≤ 63 ∧ bN l 2 = 0 ∧ bN l 3 = 0) else decide (bN l 0 = 232)
theorem bcell {W w1 : World} (hb : Below W.heap.size W w1) : (∀ b o, b < W.heap.size → w1.cell? ⟨b, o, none⟩ = W.cell? ⟨b, o, none⟩) ∧ (∀ b o, b < W.heap.size → w1.frozen? ⟨b, o, none⟩ = W.frozen? ⟨b, o, none⟩) :=
  ⟨fun b o h => hb.cell (p := ⟨b, o, none⟩) h, fun b o h => hb.frozen (p := ⟨b, o, none⟩) h⟩
theorem box_keep {w w1 : World} {v : Bool} {l : List UInt8} {t : TypeId} (hb : Below (w.alloc (.cells (addrC v l).toArray t)).heap.size (w.alloc (.cells (addrC v l).toArray t)) w1) :
    w1.cell? ⟨w.heap.size, 0, none⟩ = some (.bool v) ∧ (∀ i (h : i < l.length), w1.cell? ⟨w.heap.size, 1 + i, none⟩ = some (.int .u8 ((l[i]).toNat : Int))) ∧ Below w.heap.size w w1 := by
  have hlt : w.heap.size < (w.alloc (.cells (addrC v l).toArray t)).heap.size := by simp
  refine ⟨?_, fun i h => ?_, ((Below.refl _ _).alloc (Nat.le_refl _) _).trans (hb.mono (by simp))⟩
  · rw [hb.cell (p := ⟨w.heap.size, 0, none⟩) hlt]; simp [addrC]
  · rw [hb.cell (p := ⟨w.heap.size, 1 + i, none⟩) hlt]; exact rowAt_box w v l t (0, 0) _ rfl i h
theorem link_lit (b0 b1 b2 : UInt8) (r : List UInt8) : (decide (b0 = 224) && (decide (b1 = 0) && decide (b2 = 0))) = linkV (b0 :: b1 :: b2 :: r) := by
  unfold linkV bN
  rw [Bool.eq_iff_iff]
  simp [← UInt8.toNat_inj]
  omega
theorem ret_bool {a b : Bool} (h : a = b) : Ending.returned (.bool a) = .returned (.bool b) := by rw [h]

theorem row_box (w : World) (v : Bool) (l : List UInt8) (hl : l.length = 16) (t : TypeId) : row? (w.alloc (.cells (addrC v l).toArray t)) w.heap.size 0 17 = some (addrC v l) := by
  have h := row?_of (w := w.alloc (.cells (addrC v l).toArray t)) (b := w.heap.size) (o := 0) (cs := addrC v l) (fun j x hj => by rw [World.cell?_alloc_mark]; simpa using hj)
  rwa [addrC_length, hl] at h

/-- The whole box and its cells behind what was made later. -/
theorem keep2 {w W w1 : World} {v : Bool} {l : List UInt8} (h0 : W.cell? ⟨w.heap.size, 0, none⟩ = some (.bool v)) (h1 : ∀ i (h : i < l.length), W.cell? ⟨w.heap.size, 1 + i, none⟩ = some (.int .u8 ((l[i]).toNat : Int))) (h2 : Below w.heap.size w W) (hlt : w.heap.size < W.heap.size) (hb : Below W.heap.size W w1) :
    w1.cell? ⟨w.heap.size, 0, none⟩ = some (.bool v) ∧ (∀ i (h : i < l.length), w1.cell? ⟨w.heap.size, 1 + i, none⟩ = some (.int .u8 ((l[i]).toNat : Int))) ∧ Below w.heap.size w w1 :=
  ⟨by rw [hb.cell (p := ⟨w.heap.size, 0, none⟩) hlt]; exact h0, fun i h => by rw [hb.cell (p := ⟨w.heap.size, 1 + i, none⟩) hlt]; exact h1 i h, bstep h2 hb⟩
/-- All that is known of a boxed address. -/
def BoxAt (w W : World) (v : Bool) (l : List UInt8) : Prop := W.cell? ⟨w.heap.size, 0, none⟩ = some (.bool v) ∧ RowAt W w.heap.size 1 l ∧ row? W w.heap.size 0 17 = some (addrC v l) ∧ w.heap.size < W.heap.size ∧ Below w.heap.size w W
theorem BoxAt.made (w : World) (v : Bool) (l : List UInt8) (hl : l.length = 16) (t : TypeId) : BoxAt w (w.alloc (.cells (addrC v l).toArray t)) v l :=
  ⟨by simp [addrC], rowAt_box w v l t (0, 0) _ rfl, row_box w v l hl t, by simp, (Below.refl _ _).alloc (Nat.le_refl _) _⟩
theorem BoxAt.keep {w W W' : World} {v : Bool} {l : List UInt8} (h : BoxAt w W v l) (hb : Below W.heap.size W W') : BoxAt w W' v l :=
  ⟨by rw [hb.cell (p := ⟨w.heap.size, 0, none⟩) h.2.2.2.1]; exact h.1, h.2.1.below h.2.2.2.1 hb, row?_below h.2.2.1 h.2.2.2.1 hb, Nat.lt_of_lt_of_le h.2.2.2.1 hb.size, bstep h.2.2.2.2 hb⟩
theorem BoxAt.drewN {w W : World} {v : Bool} {l : List UInt8} (h : BoxAt w W v l) (n : Nat) : BoxAt w (W.drewN n) v l := h.keep (bdrewN (Below.refl _ _) n)
theorem BoxAt.alloc {w W : World} {v : Bool} {l : List UInt8} (h : BoxAt w W v l) (o : Obj) : BoxAt w (W.alloc o) v l := h.keep ((Below.refl _ _).alloc (Nat.le_refl _) _)
theorem BoxAt.at {w W : World} {v : Bool} {l : List UInt8} (h : BoxAt w W v l) (i : Nat) (hi : i < l.length) : W.cell? ⟨w.heap.size, 1 + i, none⟩ = some (.int .u8 ((l[i]).toNat : Int)) := h.2.1 i hi

end Go.Proofs.Ytkmnnkklbgnfpaa
