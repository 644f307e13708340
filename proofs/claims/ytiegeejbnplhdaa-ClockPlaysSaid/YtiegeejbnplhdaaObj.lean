/-
  Objects in memory: a block known whole. What a store, a draw, a new block, a call elsewhere leave of it.
-/
import Derived.Test.YtiegeejbnplhdaaBase
import Derived.Deep.AppendLies
namespace Go.Proofs.Ytiegeejbnplhdaa
open Go.RowKit
set_option linter.unusedVariables false

/-- Block b is these cells, none of them frozen. -/
def ObjAt (w : World) (b : Nat) (cs : Array Value) (t : TypeId) : Prop := w.heap[b]? = some (.cells cs t (0, 0))
theorem ObjAt.lt {w : World} {b : Nat} {cs : Array Value} {t : TypeId} (h : ObjAt w b cs t) : b < w.heap.size := (Array.getElem?_eq_some_iff.1 h).1
theorem ObjAt.cell {w : World} {b : Nat} {cs : Array Value} {t : TypeId} (h : ObjAt w b cs t) (j : Nat) : w.cell? ⟨b, j, none⟩ = cs[j]? := cell_of_row w b j cs t (0, 0) h
theorem ObjAt.free {w : World} {b : Nat} {cs : Array Value} {t : TypeId} (h : ObjAt w b cs t) (j : Nat) : w.frozen? ⟨b, j, none⟩ = false := frozen_of_row w b j cs t h
theorem ObjAt.set {w : World} {b : Nat} {cs : Array Value} {t : TypeId} (h : ObjAt w b cs t) (j : Nat) (v : Value) : ObjAt (w.setCell ⟨b, j, none⟩ v) b (cs.setIfInBounds j v) t := heap_setCell_same w b j cs t v h
theorem ObjAt.other {w : World} {b : Nat} {cs : Array Value} {t : TypeId} (h : ObjAt w b cs t) (a : Addr) (v : Value) (hne : b ≠ a.block) : ObjAt (w.setCell a v) b cs t := (heap_setCell_other w a b v hne).trans h
theorem ObjAt.drew {w : World} {b : Nat} {cs : Array Value} {t : TypeId} (h : ObjAt w b cs t) : ObjAt w.drew b cs t := h
theorem ObjAt.drewN {w : World} {b : Nat} {cs : Array Value} {t : TypeId} (h : ObjAt w b cs t) (n : Nat) : ObjAt (w.drewN n) b cs t := h
theorem ObjAt.alloc {w : World} {b : Nat} {cs : Array Value} {t : TypeId} (h : ObjAt w b cs t) (o : Obj) : ObjAt (w.alloc o) b cs t := (Below.heap_alloc w o b h.lt).trans h
theorem ObjAt.made (w : World) (cs : Array Value) (t : TypeId) : ObjAt (w.alloc (.cells cs t)) w.heap.size cs t := heap_alloc_new w _
theorem ObjAt.below {w w' : World} {b B : Nat} {cs : Array Value} {t : TypeId} (h : ObjAt w b cs t) (hb : Below B w w') (hl : b < B) : ObjAt w' b cs t := (hb.block b hl).trans h
theorem ObjAt.grown {w w' : World} {b : Nat} {row : Option Nat} {cs : Array Value} {t : TypeId} (h : ObjAt w b cs t) (hg : w.grownBy w' row) (hne : some b ≠ row) : ObjAt w' b cs t := (hg.block b h.lt hne).trans h
theorem gset (w : World) (b j : Nat) (v : Value) : w.grownBy (w.setCell ⟨b, j, none⟩ v) (some b) :=
  ⟨rfl, rfl, rfl, by simp, fun k _ hk => heap_setCell_other w ⟨b, j, none⟩ k v (fun e => hk (by simp [e]))⟩
theorem gtrans {w a b : World} {row : Option Nat} (h : w.grownBy a row) (k : a.grownBy b row) : w.grownBy b row :=
  ⟨k.os.trans h.os, k.tape.trans h.tape, k.output.trans h.output, Nat.le_trans h.size k.size, fun i hi hne => (k.block i (Nat.lt_of_lt_of_le hi h.size) hne).trans (h.block i hi hne)⟩
theorem gdrew {w a : World} {row : Option Nat} (h : w.grownBy a row) : w.grownBy a.drew row := ⟨h.os, h.tape, h.output, h.size, h.block⟩
theorem gset' {w a : World} {b : Nat} (h : w.grownBy a (some b)) (j : Nat) (v : Value) : w.grownBy (a.setCell ⟨b, j, none⟩ v) (some b) := gtrans h (gset a b j v)
theorem bgrown {w a w' : World} {row : Option Nat} (h : Below w.heap.size w a) (hg : a.grownBy w' row) (hr : ∀ k, row = some k → w.heap.size ≤ k) : Below w.heap.size w w' := h.grown hg h.size hr
theorem Str_extract (l : List UInt8) (a b : Nat) : (Str l).extract a b = Str ((l.drop a).take (b - a)) := by
  apply ByteArray.ext; simp [Str]
end Go.Proofs.Ytiegeejbnplhdaa
