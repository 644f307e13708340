/-
  Texts joined: Addr, ShAddr, Obj, Agg.
-/
import Derived.Test.YtokpogoblnhihaaMg00
import Derived.Test.YtokpogoblnhihaaChecked
import Derived.Deep.MidRow
import Derived.ChangeShapes
import Derived.Deep.AppendLies
import Derived.Lib.LazyBuf
import Derived.Laws.CopyRow
/-
  Addresses by value: their cells; rows of bytes within a block; the turn of such a row into a text.
-/
namespace Go.Proofs.Ytokpogoblnhihaa
open Go.RowKit
set_option linter.unusedVariables false

/-- An address's cells. -/
def addrC (v : Bool) (l : List UInt8) : List Value := .bool v :: B8 l
theorem addrC_length (v : Bool) (l : List UInt8) : (addrC v l).length = l.length + 1 := by simp [addrC, B8_length]
/-- Bytes in a block from an offset on. -/
def RowAt (w : World) (b o : Nat) (l : List UInt8) : Prop := ∀ i (h : i < l.length), w.cell? ⟨b, o + i, none⟩ = some (.int .u8 ((l[i]).toNat : Int))
theorem RowAt.below {w w' : World} {b o : Nat} {l : List UInt8} {B : Nat} (hr : RowAt w b o l) (hB : b < B) (h : Below B w w') : RowAt w' b o l := fun i hi => by
  rw [h.cell (p := ⟨b, o + i, none⟩) hB]; exact hr i hi
theorem RowAt.drew {w : World} {b o : Nat} {l : List UInt8} (hr : RowAt w b o l) : RowAt w.drew b o l := hr
theorem RowAt.drewN {w : World} {b o : Nat} {l : List UInt8} (hr : RowAt w b o l) (n : Nat) : RowAt (w.drewN n) b o l := hr
theorem rowAt_box (w : World) (v : Bool) (l : List UInt8) (t : TypeId) (fr : Nat × Nat) (n : Nat) (hn : n = w.heap.size) : RowAt (w.alloc (.cells (addrC v l).toArray t fr)) n 1 l := fun i hi => by
  subst hn
  rw [World.cell?_alloc_mark]
  simp [addrC, Nat.add_comm 1 i, B8, List.getElem?_eq_getElem hi]
end Go.Proofs.Ytokpogoblnhihaa

/-
  The shape of an address that came in.
-/
namespace Go.Proofs.Ytokpogoblnhihaa
open Go.RowKit
set_option linter.unusedVariables false

def addrS : Shape (Bool × (List UInt8 × Unit)) := pairS 1 boolS (pairS 16 (bytesS 16) unitS)
theorem opens_addrS : Opens Try.prog 37 addrS :=
  opens_struct Try.underlying37 (opens_cons rfl (by kernel_rfl) (of_decide_eq_true (by kernel_rfl)) (opens_bool Try.underlying4) (opens_cons rfl (by kernel_rfl) (of_decide_eq_true (by kernel_rfl)) (opens_bytes Try.underlying35 Try.underlying5 (by kernel_rfl) (by kernel_rfl)) (opens_nil (by kernel_rfl))))
theorem addrS_cells {w : World} {cs : List Value} {x : Bool × (List UInt8 × Unit)} (h : addrS w cs x) : cs = addrC x.1 x.2.1 ∧ x.2.1.length = 16 := by
  obtain ⟨c, d, rfl, _, h1, c', d', rfl, _, h2, h3⟩ := h
  obtain ⟨h4, h5⟩ := h2
  have h1' : c = [.bool x.1] := h1
  have h3' : d' = [] := h3
  subst h1' h3' h4
  exact ⟨by simp [addrC], h5⟩

/-- The cells that lie in a block from an offset on. -/
def row? (w : World) (b o n : Nat) : Option (List Value) := w.cells? 0 ⟨b, o, none⟩ n
theorem row?_of {w : World} {b o : Nat} {cs : List Value} (h : w.rangeAt b o cs) : row? w b o cs.length = some cs := by
  unfold row?
  exact Go.ChangeShapes.cells?_of (Nat.zero_le _) rfl (fun i hi => by rw [h i cs[i] (List.getElem?_eq_getElem hi), List.getElem?_eq_getElem hi])
theorem rangeAt_of_row? {w : World} {b o n : Nat} {cs : List Value} (h : row? w b o n = some cs) : w.rangeAt b o cs ∧ cs.length = n := by
  obtain ⟨_, h1, h2⟩ := World.cells?_some h
  refine ⟨fun j v hv => ?_, h1⟩
  have hlt := (List.getElem?_eq_some_iff.1 hv).1
  have := h2 j (by omega)
  rw [Addr.add_mid] at this
  rw [this, hv]
theorem row?_below {w w' : World} {b o n B : Nat} {cs : List Value} (h : row? w b o n = some cs) (hB : b < B) (hb : Below B w w') : row? w' b o n = some cs := by
  obtain ⟨h1, h2⟩ := rangeAt_of_row? h
  subst h2
  exact row?_of (fun j v hv => by rw [hb.cell (p := ⟨b, o + j, none⟩) hB]; exact h1 j v hv)
end Go.Proofs.Ytokpogoblnhihaa

/-
  Objects in memory: a block known whole. What a store, a draw, a new block, a call elsewhere leave of it.
-/
namespace Go.Proofs.Ytokpogoblnhihaa
open Go.RowKit
set_option linter.unusedVariables false

/-- Block b is these cells, none of them frozen. -/
def ObjAt (w : World) (b : Nat) (cs : Array Value) (t : TypeId) : Prop := w.heap[b]? = some (.cells cs t (0, 0))
theorem ObjAt.lt {w : World} {b : Nat} {cs : Array Value} {t : TypeId} (h : ObjAt w b cs t) : b < w.heap.size := (Array.getElem?_eq_some_iff.1 h).1
theorem ObjAt.cell {w : World} {b : Nat} {cs : Array Value} {t : TypeId} (h : ObjAt w b cs t) (j : Nat) : w.cell? ⟨b, j, none⟩ = cs[j]? := cell_of_row w b j cs t (0, 0) h
theorem ObjAt.free {w : World} {b : Nat} {cs : Array Value} {t : TypeId} (h : ObjAt w b cs t) (j : Nat) : w.frozen? ⟨b, j, none⟩ = false := frozen_of_row w b j cs t h
theorem ObjAt.set {w : World} {b : Nat} {cs : Array Value} {t : TypeId} (h : ObjAt w b cs t) (j : Nat) (v : Value) : ObjAt (w.setCell ⟨b, j, none⟩ v) b (cs.setIfInBounds j v) t := heap_setCell_same w b j cs t v h
theorem ObjAt.other {w : World} {b : Nat} {cs : Array Value} {t : TypeId} (h : ObjAt w b cs t) (a : Addr) (v : Value) (hne : b ≠ a.block) : ObjAt (w.setCell a v) b cs t := (heap_setCell_other w a b v hne).trans h
theorem ObjAt.drew {w : World} {b : Nat} {cs : Array Value} {t : TypeId} (h : ObjAt w b cs t) : ObjAt w.drew b cs t := h
theorem ObjAt.drewN {w : World} {b : Nat} {cs : Array Value} {t : TypeId} (h : ObjAt w b cs t) (n : Nat) : ObjAt (w.drewN n) b cs t := h
theorem ObjAt.alloc {w : World} {b : Nat} {cs : Array Value} {t : TypeId} (h : ObjAt w b cs t) (o : Obj) : ObjAt (w.alloc o) b cs t := (Below.heap_alloc w o b h.lt).trans h
theorem ObjAt.made (w : World) (cs : Array Value) (t : TypeId) : ObjAt (w.alloc (.cells cs t)) w.heap.size cs t := heap_alloc_new w _
theorem ObjAt.below {w w' : World} {b B : Nat} {cs : Array Value} {t : TypeId} (h : ObjAt w b cs t) (hb : Below B w w') (hl : b < B) : ObjAt w' b cs t := (hb.block b hl).trans h
theorem ObjAt.grown {w w' : World} {b : Nat} {row : Option Nat} {cs : Array Value} {t : TypeId} (h : ObjAt w b cs t) (hg : w.grownBy w' row) (hne : some b ≠ row) : ObjAt w' b cs t := (hg.block b h.lt hne).trans h
theorem gset (w : World) (b j : Nat) (v : Value) : w.grownBy (w.setCell ⟨b, j, none⟩ v) (some b) :=
  ⟨rfl, rfl, rfl, by simp, fun k _ hk => heap_setCell_other w ⟨b, j, none⟩ k v (fun e => hk (by simp [e]))⟩
theorem gtrans {w a b : World} {row : Option Nat} (h : w.grownBy a row) (k : a.grownBy b row) : w.grownBy b row :=
  ⟨k.os.trans h.os, k.tape.trans h.tape, k.output.trans h.output, Nat.le_trans h.size k.size, fun i hi hne => (k.block i (Nat.lt_of_lt_of_le hi h.size) hne).trans (h.block i hi hne)⟩
theorem bgrown {w a w' : World} {row : Option Nat} (h : Below w.heap.size w a) (hg : a.grownBy w' row) (hr : ∀ k, row = some k → w.heap.size ≤ k) : Below w.heap.size w w' := h.grown hg h.size hr
end Go.Proofs.Ytokpogoblnhihaa

/-
  Structs and arrays of several cells are loaded and stored whole: rules for the walk.
-/
namespace Go.Proofs.Ytokpogoblnhihaa
open Go.RowKit
set_option linter.unusedVariables false

noncomputable def aggLd (T : TypeId) (a : Addr) : Sem Value := loadVar T a
noncomputable def aggSt (T : TypeId) (a : Addr) (v : Value) : Sem Unit := storeVar T a v
noncomputable def aggLdSlow (T : TypeId) (b o : Nat) (w : World) : Result Value := (aggLd T ⟨b, o, none⟩).run Try.prog w
noncomputable def aggStSlow (T : TypeId) (b o : Nat) (v : Value) (w : World) : Result Unit := (aggSt T ⟨b, o, none⟩ v).run Try.prog w
/-- May so many cells be written there? -/
noncomputable def free? (w : World) (b o n : Nat) : Bool := @decide (w.there b o n) (Classical.propDecidable _)
theorem free_of {w : World} {b o n : Nat} (h : w.there b o n) : free? w b o n = true := by unfold free?; exact @decide_eq_true _ (Classical.propDecidable _) h
theorem of_free {w : World} {b o n : Nat} (h : free? w b o n = true) : w.there b o n := by unfold free? at h; exact @of_decide_eq_true _ (Classical.propDecidable _) h
def fok (cs : Array Value) (n : Nat) : Bool := cs.size == n && cs.all (·.oneCell')
theorem addrC_one (v : Bool) (l : List UInt8) : ∀ x ∈ addrC v l, x.oneCell' = true := by
  intro x hx
  simp only [addrC, List.mem_cons] at hx
  rcases hx with rfl | hx
  · rfl
  · exact B8_one l x hx
theorem fok_addr (v : Bool) (l : List UInt8) (h : l.length = 16) : fok (addrC v l).toArray 17 = true := by
  have h1 : (addrC v l).toArray.all (·.oneCell') = true := all_oneCell_toArray (by
    intro x hx
    simp only [addrC, List.mem_cons] at hx
    rcases hx with rfl | hx
    · rfl
    · exact B8_one l x hx)
  simp only [fok, h1, Bool.and_true]
  simp [addrC_length, h]
noncomputable def aggW (w : World) (b : Nat) (cs : List Value) : World := Classical.choose (⟨w.setCells b 0 cs, rfl⟩ : ∃ x : World, x = w.setCells b 0 cs)
theorem aggW_eq (w : World) (b : Nat) (cs : List Value) : aggW w b cs = w.setCells b 0 cs := Classical.choose_spec (⟨w.setCells b 0 cs, rfl⟩ : ∃ x : World, x = w.setCells b 0 cs)
theorem setCells_below {B b : Nat} (hB : B ≤ b) : ∀ (cs : List Value) (o : Nat) {a w : World}, Below B a w → Below B a (w.setCells b o cs)
  | [], _, _, _, h => h
  | v :: r, o, _, _, h => setCells_below hB r (o + 1) (h.setCell (p := ⟨b, o, none⟩) hB v)
theorem aggW_below {B b : Nat} {a w : World} (h : Below B a w) (hB : B ≤ b) (cs : List Value) : Below B a (aggW w b cs) := by rw [aggW_eq]; exact setCells_below hB cs 0 h
theorem aggW_row {w : World} {b n : Nat} {cs : List Value} (h : free? w b 0 n = true) (hn : cs.length = n) : row? (aggW w b cs) b 0 n = some cs := by
  subst hn
  rw [aggW_eq]
  exact row?_of (World.rangeAt_setCells_same w b 0 cs (of_free h))
theorem free_made (w : World) (cs : Array Value) (t : TypeId) (n : Nat) (hn : n ≤ cs.size) : free? (w.alloc (.cells cs t)) w.heap.size 0 n = true :=
  free_of fun j hj => by
    have h := ObjAt.made w cs t
    refine ⟨?_, h.free (0 + j)⟩
    rw [h.cell (0 + j), Array.getElem?_eq_getElem (by omega)]; rfl

noncomputable def aggBuild (T : TypeId) (parts : Array (Nat × Value)) : Sem Value := Instr.build T parts
theorem bld_addr (p : Array (Nat × Value)) : Instr.build 37 p = aggBuild 37 p := rfl
theorem bld_b16 (p : Array (Nat × Value)) : Instr.build 35 p = aggBuild 35 p := rfl
theorem bld_run (T : TypeId) (p : Array (Nat × Value)) (cells : Array Value) (h : Try.prog.built T p.toList = some cells) (w : World) : (aggBuild T p).run Try.prog w = .ok (.agg cells) w := run_build w T p cells h
theorem ld_addr (a : Addr) : loadVar 37 a = aggLd 37 a := rfl
theorem st_addr (a : Addr) (v : Value) : storeVar 37 a v = aggSt 37 a v := rfl
theorem ld_b16 (a : Addr) : loadVar 35 a = aggLd 35 a := rfl
theorem ld_run {T : TypeId} {d : TypeDesc} {n : Nat} (hu : Try.prog.underlying T = some d) (hd : d.isRow = true) (hi : (Try.prog.info? T).map (·.size) = some n) (b o : Nat) (w : World) :
    (aggLd T ⟨b, o, none⟩).run Try.prog w = match row? w b o n with | some cs => .ok (.agg cs.toArray) w | none => aggLdSlow T b o w := by
  split
  · rename_i cs h
    obtain ⟨h1, h2⟩ := rangeAt_of_row? h
    exact run_loadVar_mid w b o _ cs _ h1 hu hd (by rw [h2]; exact hi)
  · rfl
theorem st_run {T : TypeId} {n : Nat} (hi : (Try.prog.info? T).map (·.size) = some n) (b : Nat) (cs : Array Value) (w : World) :
    (aggSt T ⟨b, 0, none⟩ (.agg cs)).run Try.prog w = match free? w b 0 n && fok cs n with | true => .ok () (aggW w b cs.toList) | false => aggStSlow T b 0 (.agg cs) w := by
  split
  · rename_i h
    simp only [Bool.and_eq_true, fok, beq_iff_eq] at h
    obtain ⟨h1, h2, h3⟩ := h
    rw [aggW_eq]
    exact run_storeVar_mid w b 0 T cs (by rw [h2]; exact of_free h1) (by rw [h2]; exact hi) h3
  · rfl
theorem ldr_addr (b o : Nat) (w : World) : (aggLd 37 ⟨b, o, none⟩).run Try.prog w = match row? w b o 17 with | some cs => .ok (.agg cs.toArray) w | none => aggLdSlow 37 b o w :=
  ld_run Try.underlying37 rfl (by kernel_rfl) b o w
theorem str_addr (b : Nat) (cs : Array Value) (w : World) : (aggSt 37 ⟨b, 0, none⟩ (.agg cs)).run Try.prog w = match free? w b 0 17 && fok cs 17 with | true => .ok () (aggW w b cs.toList) | false => aggStSlow 37 b 0 (.agg cs) w :=
  st_run (by kernel_rfl) b cs w
theorem ldr_b16 (b o : Nat) (w : World) : (aggLd 35 ⟨b, o, none⟩).run Try.prog w = match row? w b o 16 with | some cs => .ok (.agg cs.toArray) w | none => aggLdSlow 35 b o w :=
  ld_run Try.underlying35 rfl (by kernel_rfl) b o w
theorem results_cell {P : Program} {fn : Func} {k : Nat} {T : TypeId} (h : fn.results = #[.cell k T]) {tmps : Array Value} {b : Nat} (ht : tmps.getD k undef = .pointer (some ⟨b, 0, none⟩)) {w : World} {v : Value}
    (hl : (aggLd T ⟨b, 0, none⟩).run P w = .ok v w) : (results fn tmps).run P w = .ok v w := by
  have hl' : (loadVar T ⟨b, 0, none⟩).run P w = .ok v w := hl
  have ht' : tmps[k]?.getD undef = .pointer (some ⟨b, 0, none⟩) := by simpa using ht
  simp [results, h, ht', asAddr, hl']
theorem ld_some {T : TypeId} {n : Nat} {b o : Nat} {w : World} {cs : List Value} (hr : row? w b o n = some cs) (hrun : (aggLd T ⟨b, o, none⟩).run Try.prog w = match row? w b o n with | some cs => .ok (.agg cs.toArray) w | none => aggLdSlow T b o w) :
    (aggLd T ⟨b, o, none⟩).run Try.prog w = .ok (.agg cs.toArray) w := by rw [hrun, hr]
/-- Cells laid over others from a place on. -/
def over (L : List Value) (o : Nat) (cs : List Value) : List Value := L.take o ++ (cs ++ L.drop (o + cs.length))
theorem over_all (L cs : List Value) (h : cs.length = L.length) : over L 0 cs = cs := by simp [over, h]
theorem setCells_obj {w : World} {b o : Nat} {L cs : List Value} {t : TypeId} (h : ObjAt w b L.toArray t) (hf : o + cs.length ≤ L.length) (h1 : ∀ v ∈ cs, v.oneCell' = true) : ObjAt (w.setCells b o cs) b (over L o cs).toArray t := by
  have e1 := run_storeCells_cells (P := Try.prog) b o cs 0 w (fun j hj => by rw [h.cell]; simp; omega) (fun j hj => h.free _) h1
  have e2 := run_storeCells_at Try.prog b o t cs 0 L.toArray w h (by simpa using hf) h1
  have e3 := e1.symm.trans e2
  simp only [Nat.add_zero, Result.ok.injEq, true_and] at e3
  rw [e3]
  have := setRow_heap w b _ (over L o cs).toArray t (0, 0) h
  simpa [over, ObjAt, List.append_assoc] using this
theorem setCells_other {b b' : Nat} (hne : b' ≠ b) {L : Array Value} {t : TypeId} : ∀ (cs : List Value) (o : Nat) {w : World}, ObjAt w b' L t → ObjAt (w.setCells b o cs) b' L t
  | [], _, _, h => h
  | v :: r, o, _, h => setCells_other hne r (o + 1) (h.other ⟨b, o, none⟩ v hne)
noncomputable def aggO (w : World) (b o : Nat) (cs : List Value) : World := Classical.choose (⟨w.setCells b o cs, rfl⟩ : ∃ x : World, x = w.setCells b o cs)
theorem aggO_eq (w : World) (b o : Nat) (cs : List Value) : aggO w b o cs = w.setCells b o cs := Classical.choose_spec (⟨w.setCells b o cs, rfl⟩ : ∃ x : World, x = w.setCells b o cs)
theorem aggO_below {B b : Nat} {a w : World} (h : Below B a w) (hB : B ≤ b) (o : Nat) (cs : List Value) : Below B a (aggO w b o cs) := by rw [aggO_eq]; exact setCells_below hB cs o h
theorem aggW_obj {w : World} {b : Nat} {L cs : List Value} {t : TypeId} (h : ObjAt w b L.toArray t) (hf : cs.length = L.length) (h1 : ∀ v ∈ cs, v.oneCell' = true) : ObjAt (aggW w b cs) b cs.toArray t := by
  have := setCells_obj h (o := 0) (cs := cs) (by omega) h1
  rw [over_all L cs hf] at this
  rw [aggW_eq]; exact this
theorem aggW_other {w : World} {b b' : Nat} {L : Array Value} {t : TypeId} (h : ObjAt w b' L t) (cs : List Value) (hne : b' ≠ b) : ObjAt (aggW w b cs) b' L t := by rw [aggW_eq]; exact setCells_other hne cs 0 h
theorem obj_free {w : World} {b n : Nat} {L : Array Value} {t : TypeId} (h : ObjAt w b L t) (hn : n ≤ L.size) : free? w b 0 n = true := free_of fun j hj => by
  refine ⟨?_, h.free (0 + j)⟩
  rw [h.cell (0 + j), Array.getElem?_eq_getElem (by omega)]; rfl
theorem obj_row {w : World} {b o n : Nat} {A M C : List Value} {t : TypeId} (h : ObjAt w b (A ++ (M ++ C)).toArray t) (ho : A.length = o) (hn : M.length = n) : row? w b o n = some M := by
  subst hn ho
  exact row?_of fun j v hj => by
    have hlt := (List.getElem?_eq_some_iff.1 hj).1
    rw [h.cell]
    rw [List.getElem?_toArray, List.getElem?_append_right (by omega), Nat.add_sub_cancel_left, List.getElem?_append_left hlt]; exact hj
end Go.Proofs.Ytokpogoblnhihaa

