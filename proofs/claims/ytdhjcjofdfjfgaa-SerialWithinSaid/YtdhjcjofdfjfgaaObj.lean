/-
  Objects in memory: a block known whole. What a store, a draw, a new block, a call elsewhere leave of it.
-/
import Derived.Test.YtdhjcjofdfjfgaaBase
import Derived.Deep.AppendLies
namespace Go.Proofs.Ytdhjcjofdfjfgaa
open Go.RowKit
set_option linter.unusedVariables false

/-- Block b is these cells, none of them frozen. -/
def ObjAt (w : World) (b : Nat) (cs : Array Value) (t : TypeId) : Prop := w.heap[b]? = some (.cells cs t (0, 0))
theorem ObjAt.lt {w : World} {b : Nat} {cs : Array Value} {t : TypeId} (h : ObjAt w b cs t) : b < w.heap.size := (Array.getElem?_eq_some_iff.1 h).1
theorem ObjAt.cell {w : World} {b : Nat} {cs : Array Value} {t : TypeId} (h : ObjAt w b cs t) (j : Nat) : w.cell? ⟨b, j, none⟩ = cs[j]? := cell_of_row w b j cs t (0, 0) h
theorem ObjAt.other {w : World} {b : Nat} {cs : Array Value} {t : TypeId} (h : ObjAt w b cs t) (a : Addr) (v : Value) (hne : b ≠ a.block) : ObjAt (w.setCell a v) b cs t := (heap_setCell_other w a b v hne).trans h
theorem ObjAt.alloc {w : World} {b : Nat} {cs : Array Value} {t : TypeId} (h : ObjAt w b cs t) (o : Obj) : ObjAt (w.alloc o) b cs t := (Below.heap_alloc w o b h.lt).trans h
theorem ObjAt.made (w : World) (cs : Array Value) (t : TypeId) : ObjAt (w.alloc (.cells cs t)) w.heap.size cs t := heap_alloc_new w _
theorem ObjAt.below {w w' : World} {b B : Nat} {cs : Array Value} {t : TypeId} (h : ObjAt w b cs t) (hb : Below B w w') (hl : b < B) : ObjAt w' b cs t := (hb.block b hl).trans h
theorem ObjAt.grown {w w' : World} {b : Nat} {row : Option Nat} {cs : Array Value} {t : TypeId} (h : ObjAt w b cs t) (hg : w.grownBy w' row) (hne : some b ≠ row) : ObjAt w' b cs t := (hg.block b h.lt hne).trans h
end Go.Proofs.Ytdhjcjofdfjfgaa
