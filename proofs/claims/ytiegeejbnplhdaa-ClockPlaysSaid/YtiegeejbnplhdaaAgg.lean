/-
  Structs and arrays of several cells are loaded and stored whole: rules for the walk.
-/
import Derived.Test.YtiegeejbnplhdaaShAddr
import Derived.Test.YtiegeejbnplhdaaObj
import Derived.Deep.MidRow
import Derived.Lib.LazyBuf
import Derived.Laws.CopyRow
namespace Go.Proofs.Ytiegeejbnplhdaa
open Go.RowKit
set_option linter.unusedVariables false

noncomputable def aggLd (T : TypeId) (a : Addr) : Sem Value := loadVar T a
noncomputable def aggSt (T : TypeId) (a : Addr) (v : Value) : Sem Unit := storeVar T a v
noncomputable def aggLdSlow (T : TypeId) (b o : Nat) (w : World) : Result Value := (aggLd T ⟨b, o, none⟩).run Try.prog w
noncomputable def aggStSlow (T : TypeId) (b o : Nat) (v : Value) (w : World) : Result Unit := (aggSt T ⟨b, o, none⟩ v).run Try.prog w
/-- May so many cells be written there? -/
noncomputable def free? (w : World) (b o n : Nat) : Bool := @decide (w.there b o n) (Classical.propDecidable _)
theorem free_of {w : World} {b o n : Nat} (h : w.there b o n) : free? w b o n = true := by unfold free?; exact @decide_eq_true _ (Classical.propDecidable _) h
theorem of_free {w : World} {b o n : Nat} (h : free? w b o n = true) : w.there b o n := by unfold free? at h; exact @of_decide_eq_true _ (Classical.propDecidable _) h
def fok (cs : Array Value) (n : Nat) : Bool := cs.size == n && cs.all (·.oneCell')
noncomputable def aggW (w : World) (b : Nat) (cs : List Value) : World := Classical.choose (⟨w.setCells b 0 cs, rfl⟩ : ∃ x : World, x = w.setCells b 0 cs)
theorem aggW_eq (w : World) (b : Nat) (cs : List Value) : aggW w b cs = w.setCells b 0 cs := Classical.choose_spec (⟨w.setCells b 0 cs, rfl⟩ : ∃ x : World, x = w.setCells b 0 cs)
theorem setCells_below {B b : Nat} (hB : B ≤ b) : ∀ (cs : List Value) (o : Nat) {a w : World}, Below B a w → Below B a (w.setCells b o cs)
  | [], _, _, _, h => h
  | v :: r, o, _, _, h => setCells_below hB r (o + 1) (h.setCell (p := ⟨b, o, none⟩) hB v)
theorem aggW_below {B b : Nat} {a w : World} (h : Below B a w) (hB : B ≤ b) (cs : List Value) : Below B a (aggW w b cs) := by rw [aggW_eq]; exact setCells_below hB cs 0 h
theorem free_made (w : World) (cs : Array Value) (t : TypeId) (n : Nat) (hn : n ≤ cs.size) : free? (w.alloc (.cells cs t)) w.heap.size 0 n = true :=
  free_of fun j hj => by
    have h := ObjAt.made w cs t
    refine ⟨?_, h.free (0 + j)⟩
    rw [h.cell (0 + j), Array.getElem?_eq_getElem (by omega)]; rfl

theorem ld_run {T : TypeId} {d : TypeDesc} {n : Nat} (hu : Try.prog.underlying T = some d) (hd : d.isRow = true) (hi : (Try.prog.info? T).map (·.size) = some n) (b o : Nat) (w : World) :
    (aggLd T ⟨b, o, none⟩).run Try.prog w = match row? w b o n with | some cs => .ok (.agg cs.toArray) w | none => aggLdSlow T b o w := by
  split
  · rename_i cs h
    obtain ⟨h1, h2⟩ := rangeAt_of_row? h
    exact run_loadVar_mid w b o _ cs _ h1 hu hd (by rw [h2]; exact hi)
  · rfl
theorem st_run {T : TypeId} {n : Nat} (hi : (Try.prog.info? T).map (·.size) = some n) (b : Nat) (cs : Array Value) (w : World) :
    (aggSt T ⟨b, 0, none⟩ (.agg cs)).run Try.prog w = match free? w b 0 n && fok cs n with | true => .ok () (aggW w b cs.toList) | false => aggStSlow T b 0 (.agg cs) w := by
  split
  · rename_i h
    simp only [Bool.and_eq_true, fok, beq_iff_eq] at h
    obtain ⟨h1, h2, h3⟩ := h
    rw [aggW_eq]
    exact run_storeVar_mid w b 0 T cs (by rw [h2]; exact of_free h1) (by rw [h2]; exact hi) h3
  · rfl
/-- Cells laid over others from a place on. -/
def over (L : List Value) (o : Nat) (cs : List Value) : List Value := L.take o ++ (cs ++ L.drop (o + cs.length))
theorem over_all (L cs : List Value) (h : cs.length = L.length) : over L 0 cs = cs := by simp [over, h]
theorem setCells_obj {w : World} {b o : Nat} {L cs : List Value} {t : TypeId} (h : ObjAt w b L.toArray t) (hf : o + cs.length ≤ L.length) (h1 : ∀ v ∈ cs, v.oneCell' = true) : ObjAt (w.setCells b o cs) b (over L o cs).toArray t := by
  have e1 := run_storeCells_cells (P := Try.prog) b o cs 0 w (fun j hj => by rw [h.cell]; simp; omega) (fun j hj => h.free _) h1
  have e2 := run_storeCells_at Try.prog b o t cs 0 L.toArray w h (by simpa using hf) h1
  have e3 := e1.symm.trans e2
  simp only [Nat.add_zero, Result.ok.injEq, true_and] at e3
  rw [e3]
  have := setRow_heap w b _ (over L o cs).toArray t (0, 0) h
  simpa [over, ObjAt, List.append_assoc] using this
theorem aggW_obj {w : World} {b : Nat} {L cs : List Value} {t : TypeId} (h : ObjAt w b L.toArray t) (hf : cs.length = L.length) (h1 : ∀ v ∈ cs, v.oneCell' = true) : ObjAt (aggW w b cs) b cs.toArray t := by
  have := setCells_obj h (o := 0) (cs := cs) (by omega) h1
  rw [over_all L cs hf] at this
  rw [aggW_eq]; exact this
end Go.Proofs.Ytiegeejbnplhdaa
