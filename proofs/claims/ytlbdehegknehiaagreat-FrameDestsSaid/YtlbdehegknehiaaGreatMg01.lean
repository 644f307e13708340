/-
  Texts joined: Agg, EqA, Ads.
-/
import Derived.Test.YtlbdehegknehiaaGreatMg00
import Derived.Deep.MidRow
import Derived.Lib.LazyBuf
import Derived.Laws.CopyRow
import Derived.Laws.StructEq
import Derived.Deep.RegionHeld3
import Derived.Deep.Cut
import Derived.BigQuiet
import Derived.LoopTactic
import Derived.Deep.QuietTactic
/- A part of the proof. -/
namespace Go.Proofs.YtlbdehegknehiaaGreat
open Go.RowKit
set_option linter.unusedVariables false
noncomputable def aggLd (T : TypeId) (a : Addr) : Sem Value := loadVar T a
noncomputable def aggSt (T : TypeId) (a : Addr) (v : Value) : Sem Unit := storeVar T a v
noncomputable def aggLdSlow (T : TypeId) (b o : Nat) (w : World) : Result Value := (aggLd T ⟨b, o, none⟩).run Tryz.prog w
noncomputable def aggStSlow (T : TypeId) (b o : Nat) (v : Value) (w : World) : Result Unit := (aggSt T ⟨b, o, none⟩ v).run Tryz.prog w
noncomputable def free? (w : World) (b o n : Nat) : Bool := @decide (w.there b o n) (Classical.propDecidable _)
theorem free_of {w : World} {b o n : Nat} (h : w.there b o n) : free? w b o n = true := by unfold free?; exact @decide_eq_true _ (Classical.propDecidable _) h
theorem of_free {w : World} {b o n : Nat} (h : free? w b o n = true) : w.there b o n := by unfold free? at h; exact @of_decide_eq_true _ (Classical.propDecidable _) h
def fok (cs : Array Value) (n : Nat) : Bool := cs.size == n && cs.all (·.oneCell')
theorem addrC_one (v : Bool) (l : List UInt8) : ∀ x ∈ addrC v l, x.oneCell' = true := by
  intro x hx
  simp only [addrC, List.mem_cons] at hx
  rcases hx with rfl | hx
  · rfl
  · exact B8_one l x hx
theorem fok_addr (v : Bool) (l : List UInt8) (h : l.length = 16) : fok (addrC v l).toArray 17 = true := by
  have h1 : (addrC v l).toArray.all (·.oneCell') = true := all_oneCell_toArray (by
    intro x hx
    simp only [addrC, List.mem_cons] at hx
    rcases hx with rfl | hx
    · rfl
    · exact B8_one l x hx)
  simp only [fok, h1, Bool.and_true]
  simp [addrC_length, h]
theorem fok_bytes (l : List UInt8) (n : Nat) (h : l.length = n) : fok (B8 l).toArray n = true := by
  have h1 : (B8 l).toArray.all (·.oneCell') = true := all_oneCell_toArray (fun x hx => B8_one l x hx)
  simp only [fok, h1, Bool.and_true]
  simp [B8_length, h]
noncomputable def aggW (w : World) (b : Nat) (cs : List Value) : World := Classical.choose (⟨w.setCells b 0 cs, rfl⟩ : ∃ x : World, x = w.setCells b 0 cs)
theorem aggW_eq (w : World) (b : Nat) (cs : List Value) : aggW w b cs = w.setCells b 0 cs := Classical.choose_spec (⟨w.setCells b 0 cs, rfl⟩ : ∃ x : World, x = w.setCells b 0 cs)
theorem setCells_below {B b : Nat} (hB : B ≤ b) : ∀ (cs : List Value) (o : Nat) {a w : World}, Below B a w → Below B a (w.setCells b o cs)
  | [], _, _, _, h => h
  | v :: r, o, _, _, h => setCells_below hB r (o + 1) (h.setCell (p := ⟨b, o, none⟩) hB v)
theorem aggW_below {B b : Nat} {a w : World} (h : Below B a w) (hB : B ≤ b) (cs : List Value) : Below B a (aggW w b cs) := by rw [aggW_eq]; exact setCells_below hB cs 0 h
theorem aggW_row {w : World} {b n : Nat} {cs : List Value} (h : free? w b 0 n = true) (hn : cs.length = n) : row? (aggW w b cs) b 0 n = some cs := by
  subst hn
  rw [aggW_eq]
  exact row?_of (World.rangeAt_setCells_same w b 0 cs (of_free h))
theorem free_made (w : World) (cs : Array Value) (t : TypeId) (n : Nat) (hn : n ≤ cs.size) : free? (w.alloc (.cells cs t)) w.heap.size 0 n = true :=
  free_of fun j hj => by
    have h := ObjAt.made w cs t
    refine ⟨?_, h.free (0 + j)⟩
    rw [h.cell (0 + j), Array.getElem?_eq_getElem (by omega)]; rfl
noncomputable def aggBuild (T : TypeId) (parts : Array (Nat × Value)) : Sem Value := Instr.build T parts
theorem bld_addr (p : Array (Nat × Value)) : Instr.build 24 p = aggBuild 24 p := rfl
theorem bld_mac (p : Array (Nat × Value)) : Instr.build 32 p = aggBuild 32 p := rfl
theorem bld_b16 (p : Array (Nat × Value)) : Instr.build 22 p = aggBuild 22 p := rfl
theorem bld_run (T : TypeId) (p : Array (Nat × Value)) (cells : Array Value) (h : Tryz.prog.built T p.toList = some cells) (w : World) : (aggBuild T p).run Tryz.prog w = .ok (.agg cells) w := run_build w T p cells h
theorem ld_addr (a : Addr) : loadVar 24 a = aggLd 24 a := rfl
theorem st_addr (a : Addr) (v : Value) : storeVar 24 a v = aggSt 24 a v := rfl
theorem ld_mac (a : Addr) : loadVar 32 a = aggLd 32 a := rfl
theorem st_mac (a : Addr) (v : Value) : storeVar 32 a v = aggSt 32 a v := rfl
theorem ld_b16 (a : Addr) : loadVar 22 a = aggLd 22 a := rfl
theorem ld_run {T : TypeId} {d : TypeDesc} {n : Nat} (hu : Tryz.prog.underlying T = some d) (hd : d.isRow = true) (hi : (Tryz.prog.info? T).map (·.size) = some n) (b o : Nat) (w : World) :
    (aggLd T ⟨b, o, none⟩).run Tryz.prog w = match row? w b o n with | some cs => .ok (.agg cs.toArray) w | none => aggLdSlow T b o w := by
  split
  · rename_i cs h
    obtain ⟨h1, h2⟩ := rangeAt_of_row? h
    exact run_loadVar_mid w b o _ cs _ h1 hu hd (by rw [h2]; exact hi)
  · rfl
theorem st_run {T : TypeId} {n : Nat} (hi : (Tryz.prog.info? T).map (·.size) = some n) (b : Nat) (cs : Array Value) (w : World) :
    (aggSt T ⟨b, 0, none⟩ (.agg cs)).run Tryz.prog w = match free? w b 0 n && fok cs n with | true => .ok () (aggW w b cs.toList) | false => aggStSlow T b 0 (.agg cs) w := by
  split
  · rename_i h
    simp only [Bool.and_eq_true, fok, beq_iff_eq] at h
    obtain ⟨h1, h2, h3⟩ := h
    rw [aggW_eq]
    exact run_storeVar_mid w b 0 T cs (by rw [h2]; exact of_free h1) (by rw [h2]; exact hi) h3
  · rfl
theorem ldr_addr (b o : Nat) (w : World) : (aggLd 24 ⟨b, o, none⟩).run Tryz.prog w = match row? w b o 17 with | some cs => .ok (.agg cs.toArray) w | none => aggLdSlow 24 b o w :=
  ld_run Tryz.underlying24 rfl (by kernel_rfl) b o w
theorem str_addr (b : Nat) (cs : Array Value) (w : World) : (aggSt 24 ⟨b, 0, none⟩ (.agg cs)).run Tryz.prog w = match free? w b 0 17 && fok cs 17 with | true => .ok () (aggW w b cs.toList) | false => aggStSlow 24 b 0 (.agg cs) w :=
  st_run (by kernel_rfl) b cs w
theorem ldr_mac (b o : Nat) (w : World) : (aggLd 32 ⟨b, o, none⟩).run Tryz.prog w = match row? w b o 6 with | some cs => .ok (.agg cs.toArray) w | none => aggLdSlow 32 b o w :=
  ld_run Tryz.underlying32 rfl (by kernel_rfl) b o w
theorem str_mac (b : Nat) (cs : Array Value) (w : World) : (aggSt 32 ⟨b, 0, none⟩ (.agg cs)).run Tryz.prog w = match free? w b 0 6 && fok cs 6 with | true => .ok () (aggW w b cs.toList) | false => aggStSlow 32 b 0 (.agg cs) w :=
  st_run (by kernel_rfl) b cs w
theorem ldr_b16 (b o : Nat) (w : World) : (aggLd 22 ⟨b, o, none⟩).run Tryz.prog w = match row? w b o 16 with | some cs => .ok (.agg cs.toArray) w | none => aggLdSlow 22 b o w :=
  ld_run Tryz.underlying22 rfl (by kernel_rfl) b o w
theorem results_cell {P : Program} {fn : Func} {k : Nat} {T : TypeId} (h : fn.results = #[.cell k T]) {tmps : Array Value} {b : Nat} (ht : tmps.getD k undef = .pointer (some ⟨b, 0, none⟩)) {w : World} {v : Value}
    (hl : (aggLd T ⟨b, 0, none⟩).run P w = .ok v w) : (results fn tmps).run P w = .ok v w := by
  have hl' : (loadVar T ⟨b, 0, none⟩).run P w = .ok v w := hl
  have ht' : tmps[k]?.getD undef = .pointer (some ⟨b, 0, none⟩) := by simpa using ht
  simp [results, h, ht', asAddr, hl']
theorem results_cell2 {P : Program} {fn : Func} {k j : Nat} {T : TypeId} (h : fn.results = #[.cell k T, .tmp j]) {tmps : Array Value} {b : Nat} (ht : tmps.getD k undef = .pointer (some ⟨b, 0, none⟩)) {w : World} {v : Value}
    (hl : (aggLd T ⟨b, 0, none⟩).run P w = .ok v w) : (results fn tmps).run P w = .ok (.tuple #[v, tmps.getD j undef]) w := by
  have hl' : (loadVar T ⟨b, 0, none⟩).run P w = .ok v w := hl
  have ht' : tmps[k]?.getD undef = .pointer (some ⟨b, 0, none⟩) := by simpa using ht
  simp [results, h, ht', asAddr, hl']
theorem ld_some {T : TypeId} {n : Nat} {b o : Nat} {w : World} {cs : List Value} (hr : row? w b o n = some cs) (hrun : (aggLd T ⟨b, o, none⟩).run Tryz.prog w = match row? w b o n with | some cs => .ok (.agg cs.toArray) w | none => aggLdSlow T b o w) :
    (aggLd T ⟨b, o, none⟩).run Tryz.prog w = .ok (.agg cs.toArray) w := by rw [hrun, hr]
def over (L : List Value) (o : Nat) (cs : List Value) : List Value := L.take o ++ (cs ++ L.drop (o + cs.length))
theorem over_all (L cs : List Value) (h : cs.length = L.length) : over L 0 cs = cs := by simp [over, h]
theorem setCells_obj {w : World} {b o : Nat} {L cs : List Value} {t : TypeId} (h : ObjAt w b L.toArray t) (hf : o + cs.length ≤ L.length) (h1 : ∀ v ∈ cs, v.oneCell' = true) : ObjAt (w.setCells b o cs) b (over L o cs).toArray t := by
  have e1 := run_storeCells_cells (P := Tryz.prog) b o cs 0 w (fun j hj => by rw [h.cell]; simp; omega) (fun j hj => h.free _) h1
  have e2 := run_storeCells_at Tryz.prog b o t cs 0 L.toArray w h (by simpa using hf) h1
  have e3 := e1.symm.trans e2
  simp only [Nat.add_zero, Result.ok.injEq, true_and] at e3
  rw [e3]
  have := setRow_heap w b _ (over L o cs).toArray t (0, 0) h
  simpa [over, ObjAt, List.append_assoc] using this
theorem setCells_other {b b' : Nat} (hne : b' ≠ b) {L : Array Value} {t : TypeId} : ∀ (cs : List Value) (o : Nat) {w : World}, ObjAt w b' L t → ObjAt (w.setCells b o cs) b' L t
  | [], _, _, h => h
  | v :: r, o, _, h => setCells_other hne r (o + 1) (h.other ⟨b, o, none⟩ v hne)
noncomputable def aggO (w : World) (b o : Nat) (cs : List Value) : World := Classical.choose (⟨w.setCells b o cs, rfl⟩ : ∃ x : World, x = w.setCells b o cs)
theorem aggO_eq (w : World) (b o : Nat) (cs : List Value) : aggO w b o cs = w.setCells b o cs := Classical.choose_spec (⟨w.setCells b o cs, rfl⟩ : ∃ x : World, x = w.setCells b o cs)
theorem aggO_below {B b : Nat} {a w : World} (h : Below B a w) (hB : B ≤ b) (o : Nat) (cs : List Value) : Below B a (aggO w b o cs) := by rw [aggO_eq]; exact setCells_below hB cs o h
theorem aggO_obj {w : World} {b o : Nat} {L cs : List Value} {t : TypeId} (h : ObjAt w b L.toArray t) (hf : o + cs.length ≤ L.length) (h1 : ∀ v ∈ cs, v.oneCell' = true) : ObjAt (aggO w b o cs) b (over L o cs).toArray t := by rw [aggO_eq]; exact setCells_obj h hf h1
theorem aggO_other {w : World} {b b' o : Nat} {L : Array Value} {t : TypeId} (h : ObjAt w b' L t) (cs : List Value) (hne : b' ≠ b) : ObjAt (aggO w b o cs) b' L t := by rw [aggO_eq]; exact setCells_other hne cs o h
theorem aggW_obj {w : World} {b : Nat} {L cs : List Value} {t : TypeId} (h : ObjAt w b L.toArray t) (hf : cs.length = L.length) (h1 : ∀ v ∈ cs, v.oneCell' = true) : ObjAt (aggW w b cs) b cs.toArray t := by
  have := setCells_obj h (o := 0) (cs := cs) (by omega) h1
  rw [over_all L cs hf] at this
  rw [aggW_eq]; exact this
theorem aggW_other {w : World} {b b' : Nat} {L : Array Value} {t : TypeId} (h : ObjAt w b' L t) (cs : List Value) (hne : b' ≠ b) : ObjAt (aggW w b cs) b' L t := by rw [aggW_eq]; exact setCells_other hne cs 0 h
theorem obj_free {w : World} {b n : Nat} {L : Array Value} {t : TypeId} (h : ObjAt w b L t) (hn : n ≤ L.size) : free? w b 0 n = true := free_of fun j hj => by
  refine ⟨?_, h.free (0 + j)⟩
  rw [h.cell (0 + j), Array.getElem?_eq_getElem (by omega)]; rfl
theorem obj_row {w : World} {b o n : Nat} {A M C : List Value} {t : TypeId} (h : ObjAt w b (A ++ (M ++ C)).toArray t) (ho : A.length = o) (hn : M.length = n) : row? w b o n = some M := by
  subst hn ho
  exact row?_of fun j v hj => by
    have hlt := (List.getElem?_eq_some_iff.1 hj).1
    rw [h.cell]
    rw [List.getElem?_toArray, List.getElem?_append_right (by omega), Nat.add_sub_cancel_left, List.getElem?_append_left hlt]; exact hj
theorem wpList_copy_str {w : World} {ops : Array Oper} {rest : List Oper} {o : Oper} {a : Act} {Q : Exit → Act → World → Prop} (hgd : o.guard = none) (d s : Operand) (dT sT : TypeId)
    (ho : o.op = .call { callee := .builtin .copy, args := #[d, s], argTypes := #[dT, sT] }) (hu : Tryz.prog.underlying dT = some (.slice 5))
    (b off dLen dCap : Nat) (hd : a.eval d = .slice (some ⟨b, off, none⟩) dLen dCap) (l : List UInt8) (hs : a.eval s = .string (Str l)) (hle : l.length ≤ dLen)
    (L : List Value) (t : TypeId) (hg : ObjAt w b L.toArray t) (hfit : off + l.length ≤ L.length)
    (h : wpList Tryz.prog ops Q rest (a.put o.dst (goInt l.length)) (aggO w b off (B8 l))) : wpList Tryz.prog ops Q (o :: rest) a w := by
  refine wpList_plain hgd fun K hK => ?_
  have hz : ∀ w, (Go.sizeOf 5).run Tryz.prog w = .ok 1 w := fun w => by
    obtain ⟨i, hi⟩ := info_of_underlying Tryz.underlying5
    have hs : (Tryz.prog.info? 5).map (·.size) = some 1 := by kernel_rfl
    rw [hi] at hs
    simp at hs
    simp [sizeOf, typeInfo, hi, hs]
  have hrun := run_copy_string (P := Tryz.prog) w dT sT o.type 5 b off dLen dCap (Str l) hu hz (by rw [Str_size]; exact hle) (fun j hj => by rw [hg.cell]; rw [Str_size] at hj; simp; omega) (fun j hj => hg.free _)
  rw [Str_size] at hrun
  have e : w.setCells b off ((Str l).data.toList.map fun x => Value.int .u8 (x.toNat : Int)) = aggO w b off (B8 l) := (aggO_eq _ _ _ _).symm
  rw [e] at hrun
  unfold Oper.wp
  simp [execOp, ho, resolve, invoke, builtin, hd, hs, hrun, Result.andThen]
  exact hK _ _ h
end Go.Proofs.YtlbdehegknehiaaGreat

/- A part of the proof. -/
namespace Go.Proofs.YtlbdehegknehiaaGreat
open Go.RowKit
set_option linter.unusedVariables false
theorem run_eq_bytes_d {P : Program} {t e : TypeId} {n : Nat} {i : TypeInfo} (hu : P.underlying t = some (.array n e)) (he : P.underlying e = some (.int .u8)) (hp : P.plainKey e = true) (hi : P.info? e = some i) (hc : P.cellsOf e = 1) (l m : List UInt8) (hl : l.length = n) (hm : m.length = n) (d : Nat) (w : World) :
    (Op.equalIn (d + 1 + 1) t (.agg (B8 l).toArray) (.agg (B8 m).toArray)).run P w = .ok (decide (l = m)) w := by
  rw [run_equalIn_array w (d + 1) _ _ hu hi, hc, eqItems_bytes he hp d l m w _ (by intro j hj; have := List.mem_range.1 hj; omega)]
  subst hl
  rw [all_range_eq l m hm.symm]
theorem part_bytes (v : Bool) (l : List UInt8) (hl : l.length = 16) (w : World) : (part 22 (addrC v l).toArray 1).run Tryz.prog w = .ok (.agg (B8 l).toArray) w := by
  obtain ⟨i, hi⟩ := info_of Tryz.underlying22
  have hs : (Tryz.prog.info? 22).map (·.size) = some 16 := by kernel_rfl
  rw [hi] at hs
  simp at hs
  have e : ((addrC v l).toArray.extract 1 17) = (B8 l).toArray := by
    apply Array.ext'
    simp [addrC, B8_length, hl, List.take_of_length_le]
  have e2 : List.take 16 (addrC v l).tail = B8 l := by
    rw [addrC]; simp [B8_length, hl, List.take_of_length_le]
  simp [part, isAgg, run_underlying Tryz.underlying22, sizeOf, typeInfo, hi, hs, e2]
theorem eq_fin {P : Program} (v v' : Bool) (l l' : List UInt8) (w : World) (S1 S2 : Sem Value) (x y : Value) (E : Value → Value → Sem Bool) (h1 : S1.run P w = .ok x w) (h2 : S2.run P w = .ok y w) (h3 : (E x y).run P w = .ok (decide (l = l')) w) :
    (Sem.run P (if (!v == v') = true then pure false
      else do
        let a ← S1
        let b ← S2
        let r ← E a b
        if (!r) = true then pure false else pure true) w) = .ok (decide (v = v' ∧ l = l')) w := by
  by_cases hv : v = v'
  · subst hv
    by_cases hl : l = l' <;> simp [h1, h2, h3, hl]
  · simp [hv]
theorem eq_addr_d (d : Nat) (v v' : Bool) (l l' : List UInt8) (hl : l.length = 16) (hl' : l'.length = 16) (w : World) :
    (Op.equalIn (d + 1 + 1 + 1) 24 (.agg (addrC v l).toArray) (.agg (addrC v' l').toArray)).run Tryz.prog w = .ok (decide (v = v' ∧ l = l')) w := by
  have hf : Tryz.prog.underlying 24 = some (.struct (Tryz.prog.fieldsOf 24)) := by
    have h := Tryz.underlying24
    rw [Program.fieldsOf, h]
  obtain ⟨i8, hi8⟩ := info_of Tryz.underlying5
  have hb := run_eq_bytes_d (P := Tryz.prog) Tryz.underlying22 Tryz.underlying5 (by kernel_rfl) hi8 (by kernel_rfl) l l' hl hl' d w
  have hp1 := part_bytes v l hl w
  have hp2 := part_bytes v' l' hl' w
  have q1 : (part 4 (addrC v l).toArray 0).run Tryz.prog w = .ok (.bool v) w := run_part_plain w (by kernel_rfl) rfl
  have q2 : (part 4 (addrC v' l').toArray 0).run Tryz.prog w = .ok (.bool v') w := run_part_plain w (by kernel_rfl) rfl
  have q3 : (Op.equalIn (d + 1 + 1) 4 (.bool v) (.bool v')).run Tryz.prog w = .ok (v == v') w := by
    simp [Op.equalIn, run_underlying Tryz.underlying4]
  have hF : (Tryz.prog.fieldsOf 24).toList.map (fun f => (f.name, f.type, f.offset)) = [("V6", 4, 0), ("B", 22, 1)] := by kernel_rfl
  rw [run_equalIn_struct w (d + 1 + 1) _ _ _ hf (by kernel_rfl)]
  generalize (Tryz.prog.fieldsOf 24).toList = fs at hF
  obtain ⟨f, fs1, rfl, hf1, hF1⟩ := List.map_eq_cons_iff.1 hF
  obtain ⟨g, fs2, rfl, hg1, hF2⟩ := List.map_eq_cons_iff.1 hF1
  obtain rfl := List.map_eq_nil_iff.1 hF2
  simp only [Prod.mk.injEq] at hf1 hg1
  obtain ⟨n1, n2, n3⟩ := hf1
  obtain ⟨n4, n5, n6⟩ := hg1
  simp only [Op.eqFields, n1, n2, n3, n4, n5, n6, ne_eq, String.reduceEq, not_false_eq_true, if_true, Sem.run_bind, q1, q2, q3, Result.andThen_ok]
  have hb' : (Op.equalIn (d + 1 + 1) 22 (.agg (B8 l).toArray) (.agg (B8 l').toArray)).run Tryz.prog w = .ok (decide (l = l')) w := hb
  clear q1 q2 q3 hb hf hF hF1 hF2 n1 n2 n3 n4 n5 n6 hi8
  generalize part 22 (addrC v l).toArray 1 = S1 at hp1 ⊢
  generalize part 22 (addrC v' l').toArray 1 = S2 at hp2 ⊢
  have hb2 : (Op.equalIn (d + 1 + 1) 22 (.agg (B8 l).toArray) (.agg (B8 l').toArray)).run Tryz.prog w = .ok (decide (l = l')) w := hb'
  generalize (B8 l).toArray = X1 at hp1 hb2
  generalize (B8 l').toArray = X2 at hp2 hb2
  clear hb'
  exact eq_fin v v' l l' w _ _ _ _ _ hp1 hp2 hb2
theorem eq_addr (v v' : Bool) (l l' : List UInt8) (hl : l.length = 16) (hl' : l'.length = 16) (w : World) :
    (Op.equalIn 10000 24 (.agg (addrC v l).toArray) (.agg (addrC v' l').toArray)).run Tryz.prog w = .ok (decide (v = v' ∧ l = l')) w :=
  eq_addr_d 9997 v v' l l' hl hl' w
end Go.Proofs.YtlbdehegknehiaaGreat

/- A part of the proof. -/
namespace Go.Proofs.YtlbdehegknehiaaGreat
open Go.RowKit
set_option linter.unusedVariables false
abbrev AD := Bool × List UInt8
def adOk (a : AD) : Prop := a.2.length = 16
def adC (a : AD) : List Value := addrC a.1 a.2
theorem adC_length {a : AD} (h : adOk a) : (adC a).length = 17 := by unfold adC; rw [addrC_length, h]
def Ads (w : World) (v : Value) (l : List AD) : Prop :=
  ∃ (p : Option Addr) (cap : Nat), v = .slice p l.length cap ∧ l.length ≤ cap ∧ cap ≤ maxLen ∧ (∀ a ∈ l, adOk a) ∧
    (l ≠ [] → ∃ b o, p = some ⟨b, o, none⟩ ∧ b < w.heap.size ∧ ∀ i (h : i < l.length), row? w b (o + i * 17) 17 = some (adC l[i]))
theorem Ads.below {w w' : World} {v : Value} {l : List AD} (h : Ads w v l) (hb : Below w.heap.size w w') : Ads w' v l := by
  obtain ⟨p, cap, h1, h2, h3, h4, h5⟩ := h
  refine ⟨p, cap, h1, h2, h3, h4, fun hn => ?_⟩
  obtain ⟨b, o, e1, e2, e3⟩ := h5 hn
  exact ⟨b, o, e1, Nat.lt_of_lt_of_le e2 hb.size, fun i h => row?_below (e3 i h) e2 hb⟩
theorem Ads.nil (w : World) : Ads w (.slice none 0 0) [] := ⟨none, 0, rfl, Nat.le_refl _, by unfold maxLen; omega, fun a h => (by cases h), fun h => absurd rfl h⟩
def AdsAt (w : World) (b o : Nat) (l : List AD) : Prop := ∀ i (h : i < l.length), row? w b (o + i * 17) 17 = some (adC l[i])
theorem Ads.parts {w : World} {v : Value} {l : List AD} (h : Ads w v l) (hn : l ≠ []) : ∃ b o cap, v = .slice (some ⟨b, o, none⟩) l.length cap ∧ l.length ≤ cap ∧ cap ≤ maxLen ∧ b < w.heap.size ∧ AdsAt w b o l := by
  obtain ⟨p, cap, h1, h2, h3, h4, h5⟩ := h
  obtain ⟨b, o, rfl, e2, e3⟩ := h5 hn
  exact ⟨b, o, cap, h1, h2, h3, e2, e3⟩
theorem Ads.ok {w : World} {v : Value} {l : List AD} (h : Ads w v l) : ∀ a ∈ l, adOk a := by obtain ⟨p, cap, h1, h2, h3, h4, h5⟩ := h; exact h4
theorem Ads.len {w : World} {v : Value} {l : List AD} (h : Ads w v l) : ∃ p cap, v = .slice p l.length cap ∧ l.length ≤ cap ∧ cap ≤ maxLen := by obtain ⟨p, cap, h1, h2, h3, h4, h5⟩ := h; exact ⟨p, cap, h1, h2, h3⟩
def adOf (x : Bool × (List UInt8 × Unit)) : AD := (x.1, x.2.1)
theorem Ads.of {w : World} {v : Value} {xs : List (Bool × (List UInt8 × Unit))} (h : sliceS 17 addrS w [v] xs) : Ads w v (xs.map adOf) := by
  rcases h with ⟨h1, h2⟩ | ⟨a, cap, h1, h2, h3, h4, h5⟩
  · simp at h1
    subst h1 h2
    exact Ads.nil w
  · simp at h1
    subst h1
    refine ⟨some a, cap, by simp, by simpa using h2, h3, ?_, fun hn => ?_⟩
    · intro y hy
      obtain ⟨x, hx, rfl⟩ := List.mem_map.1 hy
      obtain ⟨i, hi⟩ := List.getElem?_of_mem hx
      obtain ⟨c, e1, e2, e3⟩ := h5 i x hi
      exact (addrS_cells e3).2
    · have hx : xs ≠ [] := by rintro rfl; exact hn rfl
      obtain ⟨q1, q2⟩ := h4 hx
      obtain ⟨ab, ao, as_⟩ := a
      simp only at q1 q2
      subst q1
      refine ⟨ab, ao, rfl, q2, fun i hi => ?_⟩
      simp at hi
      obtain ⟨c, e1, e2, e3⟩ := h5 i xs[i] (List.getElem?_eq_getElem hi)
      obtain ⟨f1, f2⟩ := addrS_cells e3
      have hc : c = adC (adOf xs[i]) := by rw [f1]; rfl
      rw [List.getElem_map, ← hc]
      have hr : w.rangeAt ab (ao + i * 17) c := fun j v hv => by
        have hj := (List.getElem?_eq_some_iff.1 hv).1
        rw [Nat.add_assoc, e2 j (by omega)]; exact hv
      have := row?_of hr
      rw [e1] at this
      exact this
theorem ret_bool8 {a b : Bool} (h : a = b) : Ending.returned (.bool a) = .returned (.bool b) := by rw [h]
theorem eq_ad (a b : AD) (ha : adOk a) (hb : adOk b) (w : World) : (Op.equalIn 10000 24 (.agg (adC a).toArray) (.agg (adC b).toArray)).run Tryz.prog w = .ok (decide (a = b)) w := by
  have := eq_addr a.1 b.1 a.2 b.2 ha hb w
  rw [show decide (a = b) = decide (a.1 = b.1 ∧ a.2 = b.2) by
    rw [Bool.eq_iff_iff, decide_eq_true_iff, decide_eq_true_iff, Prod.ext_iff]]
  exact this
theorem row?_drewN_eq (w : World) (b o n k : Nat) : row? (w.drewN k) b o n = row? w b o n := rfl
theorem row?_drew_eq (w : World) (b o n : Nat) : row? w.drew b o n = row? w b o n := rfl
attribute [local go_sem ↓] ld_addr
attribute [local go_sem] ldr_addr row?_drewN_eq row?_drew_eq
end Go.Proofs.YtlbdehegknehiaaGreat

