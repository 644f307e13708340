/-
  Structs and arrays of several cells are loaded and stored whole: rules for the walk.
-/
import Derived.Test.YtacnhelnpngkgaaMg01
import Derived.Deep.MidRow
import Derived.Lib.LazyBuf
import Derived.Laws.CopyRow
namespace Go.Proofs.Ytacnhelnpngkgaa
open Go.RowKit
set_option linter.unusedVariables false

noncomputable def aggLd (T : TypeId) (a : Addr) : Sem Value := loadVar T a
noncomputable def aggSt (T : TypeId) (a : Addr) (v : Value) : Sem Unit := storeVar T a v
noncomputable def aggLdSlow (T : TypeId) (b o : Nat) (w : World) : Result Value := (aggLd T ⟨b, o, none⟩).run Try.prog w
noncomputable def aggStSlow (T : TypeId) (b o : Nat) (v : Value) (w : World) : Result Unit := (aggSt T ⟨b, o, none⟩ v).run Try.prog w
/-- May so many cells be written there? -/
noncomputable def free? (w : World) (b o n : Nat) : Bool := @decide (w.there b o n) (Classical.propDecidable _)
theorem free_of {w : World} {b o n : Nat} (h : w.there b o n) : free? w b o n = true := by unfold free?; exact @decide_eq_true _ (Classical.propDecidable _) h
theorem of_free {w : World} {b o n : Nat} (h : free? w b o n = true) : w.there b o n := by unfold free? at h; exact @of_decide_eq_true _ (Classical.propDecidable _) h
def fok (cs : Array Value) (n : Nat) : Bool := cs.size == n && cs.all (·.oneCell')
theorem addrC_one (v : Bool) (l : List UInt8) : ∀ x ∈ addrC v l, x.oneCell' = true := by
  intro x hx
  simp only [addrC, List.mem_cons] at hx
  rcases hx with rfl | hx
  · rfl
  · exact B8_one l x hx
theorem fok_addr (v : Bool) (l : List UInt8) (h : l.length = 16) : fok (addrC v l).toArray 17 = true := by
  have h1 : (addrC v l).toArray.all (·.oneCell') = true := all_oneCell_toArray (by
    intro x hx
    simp only [addrC, List.mem_cons] at hx
    rcases hx with rfl | hx
    · rfl
    · exact B8_one l x hx)
  simp only [fok, h1, Bool.and_true]
  simp [addrC_length, h]
noncomputable def aggW (w : World) (b : Nat) (cs : List Value) : World := Classical.choose (⟨w.setCells b 0 cs, rfl⟩ : ∃ x : World, x = w.setCells b 0 cs)
theorem aggW_eq (w : World) (b : Nat) (cs : List Value) : aggW w b cs = w.setCells b 0 cs := Classical.choose_spec (⟨w.setCells b 0 cs, rfl⟩ : ∃ x : World, x = w.setCells b 0 cs)
theorem setCells_below {B b : Nat} (hB : B ≤ b) : ∀ (cs : List Value) (o : Nat) {a w : World}, Below B a w → Below B a (w.setCells b o cs)
  | [], _, _, _, h => h
  | v :: r, o, _, _, h => setCells_below hB r (o + 1) (h.setCell (p := ⟨b, o, none⟩) hB v)
theorem aggW_below {B b : Nat} {a w : World} (h : Below B a w) (hB : B ≤ b) (cs : List Value) : Below B a (aggW w b cs) := by rw [aggW_eq]; exact setCells_below hB cs 0 h
theorem aggW_row {w : World} {b n : Nat} {cs : List Value} (h : free? w b 0 n = true) (hn : cs.length = n) : row? (aggW w b cs) b 0 n = some cs := by
  subst hn
  rw [aggW_eq]
  exact row?_of (World.rangeAt_setCells_same w b 0 cs (of_free h))
theorem free_made (w : World) (cs : Array Value) (t : TypeId) (n : Nat) (hn : n ≤ cs.size) : free? (w.alloc (.cells cs t)) w.heap.size 0 n = true :=
  free_of fun j hj => by
    have h := ObjAt.made w cs t
    refine ⟨?_, h.free (0 + j)⟩
    rw [h.cell (0 + j), Array.getElem?_eq_getElem (by omega)]; rfl

noncomputable def aggBuild (T : TypeId) (parts : Array (Nat × Value)) : Sem Value := Instr.build T parts
theorem bld_addr (p : Array (Nat × Value)) : Instr.build 24 p = aggBuild 24 p := rfl
theorem bld_b16 (p : Array (Nat × Value)) : Instr.build 22 p = aggBuild 22 p := rfl
theorem bld_run (T : TypeId) (p : Array (Nat × Value)) (cells : Array Value) (h : Try.prog.built T p.toList = some cells) (w : World) : (aggBuild T p).run Try.prog w = .ok (.agg cells) w := run_build w T p cells h
theorem ld_addr (a : Addr) : loadVar 24 a = aggLd 24 a := rfl
theorem st_addr (a : Addr) (v : Value) : storeVar 24 a v = aggSt 24 a v := rfl
theorem ld_b16 (a : Addr) : loadVar 22 a = aggLd 22 a := rfl
theorem ld_run {T : TypeId} {d : TypeDesc} {n : Nat} (hu : Try.prog.underlying T = some d) (hd : d.isRow = true) (hi : (Try.prog.info? T).map (·.size) = some n) (b o : Nat) (w : World) :
    (aggLd T ⟨b, o, none⟩).run Try.prog w = match row? w b o n with | some cs => .ok (.agg cs.toArray) w | none => aggLdSlow T b o w := by
  split
  · rename_i cs h
    obtain ⟨h1, h2⟩ := rangeAt_of_row? h
    exact run_loadVar_mid w b o _ cs _ h1 hu hd (by rw [h2]; exact hi)
  · rfl
theorem st_run {T : TypeId} {n : Nat} (hi : (Try.prog.info? T).map (·.size) = some n) (b : Nat) (cs : Array Value) (w : World) :
    (aggSt T ⟨b, 0, none⟩ (.agg cs)).run Try.prog w = match free? w b 0 n && fok cs n with | true => .ok () (aggW w b cs.toList) | false => aggStSlow T b 0 (.agg cs) w := by
  split
  · rename_i h
    simp only [Bool.and_eq_true, fok, beq_iff_eq] at h
    obtain ⟨h1, h2, h3⟩ := h
    rw [aggW_eq]
    exact run_storeVar_mid w b 0 T cs (by rw [h2]; exact of_free h1) (by rw [h2]; exact hi) h3
  · rfl
theorem ldr_addr (b o : Nat) (w : World) : (aggLd 24 ⟨b, o, none⟩).run Try.prog w = match row? w b o 17 with | some cs => .ok (.agg cs.toArray) w | none => aggLdSlow 24 b o w :=
  ld_run Try.underlying24 rfl (by kernel_rfl) b o w
theorem str_addr (b : Nat) (cs : Array Value) (w : World) : (aggSt 24 ⟨b, 0, none⟩ (.agg cs)).run Try.prog w = match free? w b 0 17 && fok cs 17 with | true => .ok () (aggW w b cs.toList) | false => aggStSlow 24 b 0 (.agg cs) w :=
  st_run (by kernel_rfl) b cs w
theorem ldr_b16 (b o : Nat) (w : World) : (aggLd 22 ⟨b, o, none⟩).run Try.prog w = match row? w b o 16 with | some cs => .ok (.agg cs.toArray) w | none => aggLdSlow 22 b o w :=
  ld_run Try.underlying22 rfl (by kernel_rfl) b o w
theorem results_cell {P : Program} {fn : Func} {k : Nat} {T : TypeId} (h : fn.results = #[.cell k T]) {tmps : Array Value} {b : Nat} (ht : tmps.getD k undef = .pointer (some ⟨b, 0, none⟩)) {w : World} {v : Value}
    (hl : (aggLd T ⟨b, 0, none⟩).run P w = .ok v w) : (results fn tmps).run P w = .ok v w := by
  have hl' : (loadVar T ⟨b, 0, none⟩).run P w = .ok v w := hl
  have ht' : tmps[k]?.getD undef = .pointer (some ⟨b, 0, none⟩) := by simpa using ht
  simp [results, h, ht', asAddr, hl']
theorem results_cell2 {P : Program} {fn : Func} {k j : Nat} {T : TypeId} (h : fn.results = #[.cell k T, .tmp j]) {tmps : Array Value} {b : Nat} (ht : tmps.getD k undef = .pointer (some ⟨b, 0, none⟩)) {w : World} {v : Value}
    (hl : (aggLd T ⟨b, 0, none⟩).run P w = .ok v w) : (results fn tmps).run P w = .ok (.tuple #[v, tmps.getD j undef]) w := by
  have hl' : (loadVar T ⟨b, 0, none⟩).run P w = .ok v w := hl
  have ht' : tmps[k]?.getD undef = .pointer (some ⟨b, 0, none⟩) := by simpa using ht
  simp [results, h, ht', asAddr, hl']
theorem ld_some {T : TypeId} {n : Nat} {b o : Nat} {w : World} {cs : List Value} (hr : row? w b o n = some cs) (hrun : (aggLd T ⟨b, o, none⟩).run Try.prog w = match row? w b o n with | some cs => .ok (.agg cs.toArray) w | none => aggLdSlow T b o w) :
    (aggLd T ⟨b, o, none⟩).run Try.prog w = .ok (.agg cs.toArray) w := by rw [hrun, hr]
/-- Cells laid over others from a place on. -/
def over (L : List Value) (o : Nat) (cs : List Value) : List Value := L.take o ++ (cs ++ L.drop (o + cs.length))
theorem over_all (L cs : List Value) (h : cs.length = L.length) : over L 0 cs = cs := by simp [over, h]
theorem setCells_obj {w : World} {b o : Nat} {L cs : List Value} {t : TypeId} (h : ObjAt w b L.toArray t) (hf : o + cs.length ≤ L.length) (h1 : ∀ v ∈ cs, v.oneCell' = true) : ObjAt (w.setCells b o cs) b (over L o cs).toArray t := by
  have e1 := run_storeCells_cells (P := Try.prog) b o cs 0 w (fun j hj => by rw [h.cell]; simp; omega) (fun j hj => h.free _) h1
  have e2 := run_storeCells_at Try.prog b o t cs 0 L.toArray w h (by simpa using hf) h1
  have e3 := e1.symm.trans e2
  simp only [Nat.add_zero, Result.ok.injEq, true_and] at e3
  rw [e3]
  have := setRow_heap w b _ (over L o cs).toArray t (0, 0) h
  simpa [over, ObjAt, List.append_assoc] using this
theorem setCells_other {b b' : Nat} (hne : b' ≠ b) {L : Array Value} {t : TypeId} : ∀ (cs : List Value) (o : Nat) {w : World}, ObjAt w b' L t → ObjAt (w.setCells b o cs) b' L t
  | [], _, _, h => h
  | v :: r, o, _, h => setCells_other hne r (o + 1) (h.other ⟨b, o, none⟩ v hne)
noncomputable def aggO (w : World) (b o : Nat) (cs : List Value) : World := Classical.choose (⟨w.setCells b o cs, rfl⟩ : ∃ x : World, x = w.setCells b o cs)
theorem aggO_eq (w : World) (b o : Nat) (cs : List Value) : aggO w b o cs = w.setCells b o cs := Classical.choose_spec (⟨w.setCells b o cs, rfl⟩ : ∃ x : World, x = w.setCells b o cs)
theorem aggO_below {B b : Nat} {a w : World} (h : Below B a w) (hB : B ≤ b) (o : Nat) (cs : List Value) : Below B a (aggO w b o cs) := by rw [aggO_eq]; exact setCells_below hB cs o h
theorem aggO_obj {w : World} {b o : Nat} {L cs : List Value} {t : TypeId} (h : ObjAt w b L.toArray t) (hf : o + cs.length ≤ L.length) (h1 : ∀ v ∈ cs, v.oneCell' = true) : ObjAt (aggO w b o cs) b (over L o cs).toArray t := by rw [aggO_eq]; exact setCells_obj h hf h1
theorem aggO_other {w : World} {b b' o : Nat} {L : Array Value} {t : TypeId} (h : ObjAt w b' L t) (cs : List Value) (hne : b' ≠ b) : ObjAt (aggO w b o cs) b' L t := by rw [aggO_eq]; exact setCells_other hne cs o h
theorem aggW_obj {w : World} {b : Nat} {L cs : List Value} {t : TypeId} (h : ObjAt w b L.toArray t) (hf : cs.length = L.length) (h1 : ∀ v ∈ cs, v.oneCell' = true) : ObjAt (aggW w b cs) b cs.toArray t := by
  have := setCells_obj h (o := 0) (cs := cs) (by omega) h1
  rw [over_all L cs hf] at this
  rw [aggW_eq]; exact this
theorem aggW_other {w : World} {b b' : Nat} {L : Array Value} {t : TypeId} (h : ObjAt w b' L t) (cs : List Value) (hne : b' ≠ b) : ObjAt (aggW w b cs) b' L t := by rw [aggW_eq]; exact setCells_other hne cs 0 h
theorem obj_free {w : World} {b n : Nat} {L : Array Value} {t : TypeId} (h : ObjAt w b L t) (hn : n ≤ L.size) : free? w b 0 n = true := free_of fun j hj => by
  refine ⟨?_, h.free (0 + j)⟩
  rw [h.cell (0 + j), Array.getElem?_eq_getElem (by omega)]; rfl
theorem obj_row {w : World} {b o n : Nat} {A M C : List Value} {t : TypeId} (h : ObjAt w b (A ++ (M ++ C)).toArray t) (ho : A.length = o) (hn : M.length = n) : row? w b o n = some M := by
  subst hn ho
  exact row?_of fun j v hj => by
    have hlt := (List.getElem?_eq_some_iff.1 hj).1
    rw [h.cell]
    rw [List.getElem?_toArray, List.getElem?_append_right (by omega), Nat.add_sub_cancel_left, List.getElem?_append_left hlt]; exact hj
end Go.Proofs.Ytacnhelnpngkgaa
