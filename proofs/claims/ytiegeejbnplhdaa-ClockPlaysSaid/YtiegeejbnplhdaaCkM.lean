/-
  A clock in memory: a map that reads as the document's list of entries.
-/
import Derived.Test.YtiegeejbnplhdaaCkE
import Derived.Maps.RangeWalk
import Derived.Sort.KeysCollected
namespace Go.Proofs.Ytiegeejbnplhdaa
open Go.RowKit
set_option linter.unusedVariables false
set_option linter.unusedSimpArgs false

abbrev DU := DataW Unit
def kvE (x : EN) : Lit × DU := (.string x.1, .lit (.int .i64 x.2))
/-- A datum that reads as these entries, in whatever order. -/
def ReadsE (D : DU) (l : List EN) : Prop := ∃ es, D = .map es ∧ es.Perm (l.map kvE)
/-- A key's deadline, or 0. -/
def tOf (l : List EN) (k : List UInt8) : Int := match l.find? (fun x => decide (x.1 = k)) with | some x => x.2 | none => 0
theorem tOf_mem {l : List EN} (h : CkOk l) {k : List UInt8} {t : Int} (hm : (k, t) ∈ l) : tOf l k = t := by
  unfold tOf
  cases hf : l.find? (fun x => decide (x.1 = k)) with
  | none =>
    have := List.find?_eq_none.1 hf _ hm
    simp at this
  | some y =>
    have h1 := List.mem_of_find?_eq_some hf
    have h2 := List.find?_some hf
    rw [decide_eq_true_iff] at h2
    exact congrArg Prod.snd (h.u y h1 (k, t) hm h2)
theorem tOf_not {l : List EN} {k : List UInt8} (h : hasE l k = false) : tOf l k = 0 := by
  unfold tOf
  have : l.find? (fun x => decide (x.1 = k)) = none := List.find?_eq_none.2 (fun x hx => by
    unfold hasE at h
    simpa using List.any_eq_false.1 h x hx)
  rw [this]
theorem sameKey_str (a b : List UInt8) : (Lit.string a).sameKey (.string b) = decide (a = b) := by
  simp only [Lit.sameKey]
  by_cases h : a = b
  · subst h; simp
  · simp [h]
theorem ReadsE.size {D : DU} {l : List EN} (h : ReadsE D l) : Maps.size D = l.length := by
  obtain ⟨es, rfl, hp⟩ := h
  rw [Maps.size_eq, hp.length_eq, List.length_map]
theorem ReadsE.has {D : DU} {l : List EN} (h : ReadsE D l) (k : List UInt8) : Maps.has D (.string k) = hasE l k := by
  obtain ⟨es, rfl, hp⟩ := h
  rw [Maps.has_eq, hp.any_eq, List.any_map]
  unfold hasE
  congr 1
  funext x
  exact sameKey_str x.1 k
theorem ReadsE.atk {D : DU} {l : List EN} (h : ReadsE D l) (ho : CkOk l) (k : List UInt8) : D.atKey (.string k) (.lit (.int .i64 0)) = .lit (.int .i64 (tOf l k)) := by
  have hh := h.has k
  obtain ⟨es, rfl, hp⟩ := h
  cases hv : hasE l k with
  | false =>
    rw [Maps.atKey_of_not_has (hh.trans hv), tOf_not hv]
  | true =>
    unfold DataW.atKey
    simp only
    cases hf : es.find? (fun p => p.1.sameKey (.string k)) with
    | none =>
      rw [hv, Maps.has_eq] at hh
      obtain ⟨p, hp1, hp2⟩ := List.any_eq_true.1 hh
      have := List.find?_eq_none.1 hf p hp1
      rw [hp2] at this
      exact absurd rfl this
    | some p =>
      have h1 := List.mem_of_find?_eq_some hf
      have h2 := List.find?_some hf
      obtain ⟨x, hx, rfl⟩ := List.mem_map.1 (hp.mem_iff.1 h1)
      have h2' : (Lit.string x.1).sameKey (.string k) = true := h2
      rw [sameKey_str, decide_eq_true_iff] at h2'
      have : tOf l k = x.2 := tOf_mem ho (by rw [← h2']; exact hx)
      rw [this]
      rfl
theorem insS_perm {α : Type} (lt : α → α → Bool) (a : α) (l : List α) : (insS lt a l).Perm (a :: l) := by
  unfold insS
  have := List.takeWhile_append_dropWhile (p := (lt · a)) (l := l)
  refine List.perm_middle.trans ?_
  rw [this]
theorem filter_kv (l : List EN) (k : List UInt8) : (l.map kvE).filter (fun p => !p.1.sameKey (.string k)) = (cutE l k).map kvE := by
  unfold cutE
  rw [List.filter_map]
  congr 1
  congr 1
  funext x
  show (!(Lit.string x.1).sameKey (.string k)) = _
  rw [sameKey_str]
theorem ReadsE.put {D : DU} {l : List EN} (h : ReadsE D l) (k : List UInt8) (t : Int) : ReadsE (D.put (.string k) (.lit (.int .i64 t))) (setE l k t) := by
  obtain ⟨es, rfl, hp⟩ := h
  refine ⟨_, rfl, (WideShapes.insert_perm (Lit.string k, DataW.lit (Lit.int .i64 t)) (es.filter fun p => !p.1.sameKey (.string k))).trans ?_⟩
  have h1 := hp.filter (fun p => !p.1.sameKey (.string k))
  rw [filter_kv] at h1
  have h2 : ((setE l k t).map kvE).Perm (kvE (k, t) :: (cutE l k).map kvE) := (insS_perm ltE (k, t) (cutE l k)).map kvE
  exact (h1.cons _).trans h2.symm
theorem ReadsE.del {D : DU} {l : List EN} (h : ReadsE D l) (k : List UInt8) : ReadsE (D.del (.string k)) (cutE l k) := by
  obtain ⟨es, rfl, hp⟩ := h
  refine ⟨_, rfl, ?_⟩
  have h1 := hp.filter (fun p => !p.1.sameKey (.string k))
  rwa [filter_kv] at h1
theorem ReadsE.nil : ReadsE (.map []) [] := ⟨[], rfl, List.Perm.nil⟩

/-- Block b is a map that reads as these entries. -/
def OwnM (w : World) (b : Nat) (l : List EN) : Prop := ∃ D : DU, w.ownsMap Try.prog 9 (plainElem Try.prog 3) b l.length D ∧ ReadsE D l
theorem mapKeyed : Maps.Keyed Try.prog 9 := Maps.string_keyed Try.underlying9
theorem mapZero (w : World) : (zeroValue 3).run Try.prog w = .ok (.int .i64 0) w := by kernel_rfl
theorem keyOf_Str (k : List UInt8) (hk : k.length ≤ maxLen) : keyOf Try.prog 9 (.string (Str k)) = some (.string k) :=
  WideMaps.keyOf_string_mk Try.underlying9 (by rw [Str_size]; exact hk)
/-- The bound is what there is. -/
theorem ownsMap_exact {w : World} {b n : Nat} {D : DU} (h : w.ownsMap Try.prog 9 (plainElem Try.prog 3) b n D) : w.ownsMap Try.prog 9 (plainElem Try.prog 3) b (Maps.size D) D := by
  obtain ⟨es, clock, hb, F, hs, rfl⟩ := h
  exact ⟨es, clock, hb, F, by simp [Maps.size, length_sorted], rfl⟩
theorem OwnM.of {w : World} {b n : Nat} {D : DU} {l : List EN} (h : w.ownsMap Try.prog 9 (plainElem Try.prog 3) b n D) (hr : ReadsE D l) : OwnM w b l :=
  ⟨D, by have := ownsMap_exact h; rwa [hr.size] at this, hr⟩
theorem OwnM.lt {w : World} {b : Nat} {l : List EN} (h : OwnM w b l) : b < w.heap.size := by obtain ⟨D, h, _⟩ := h; exact h.lt
theorem OwnM.isMap {w : World} {b : Nat} {l : List EN} (h : OwnM w b l) : ∃ es c, w.heap[b]? = some (.map es c) := by
  obtain ⟨D, ⟨es, c, h, _⟩, _⟩ := h; exact ⟨es, c, h⟩
theorem OwnM.same {w w' : World} {b : Nat} {l : List EN} (h : OwnM w b l) (e : w'.heap[b]? = w.heap[b]?) : OwnM w' b l := by
  obtain ⟨D, ⟨es, c, h1, h2⟩, h3⟩ := h
  exact ⟨D, ⟨es, c, e.trans h1, h2⟩, h3⟩
/-- What a map of deadlines reads as; a nil map too. -/
def ClkM (w : World) (m : Value) (l : List EN) : Prop := (m = .map none ∧ l = []) ∨ ∃ b, m = .map (some b) ∧ OwnM w b l
/-- A clock: nil, or a block that holds a map. -/
def ClkV (w : World) (p : Value) (l : List EN) : Prop :=
  (p = .pointer none ∧ l = []) ∨ ∃ b m, p = .pointer (some ⟨b, 0, none⟩) ∧ ObjAt w b #[m] 51 ∧ ClkM w m l
/-- A clock's own blocks: that of the struct, and that of the map. -/
def ClkB (w : World) (p : Value) (k : Nat) : Prop := p = .pointer (some ⟨k, 0, none⟩) ∨ ∃ b T, p = .pointer (some ⟨b, 0, none⟩) ∧ ObjAt w b #[.map (some k)] T
/-- All that was there stands, but for what may turn. -/
structure Keep (S : Nat → Prop) (w w' : World) : Prop where
  os : w'.os = w.os
  tape : w'.tape = w.tape
  output : w'.output = w.output
  size : w.heap.size ≤ w'.heap.size
  block : ∀ k, k < w.heap.size → ¬ S k → w'.heap[k]? = w.heap[k]?
theorem Keep.of_below {S : Nat → Prop} {w w' : World} (h : Below w.heap.size w w') : Keep S w w' := ⟨h.os, h.tape, h.output, h.size, fun k hk _ => h.block k hk⟩
theorem Keep.below {S : Nat → Prop} {B : Nat} {w0 w w' : World} (h : Keep S w w') (hb : Below B w0 w) (hB : B ≤ w.heap.size) (hs : ∀ k, S k → B ≤ k) : Below B w0 w' :=
  hb.trans ⟨h.os, h.tape, h.output, h.size, fun k hk => h.block k (by omega) (fun hS => by have := hs k hS; omega)⟩
theorem Keep.refl (S : Nat → Prop) (w : World) : Keep S w w := ⟨rfl, rfl, rfl, Nat.le_refl _, fun _ _ _ => rfl⟩
theorem ClkM.below {w w' : World} {m : Value} {l : List EN} (h : ClkM w m l) (hb : Below w.heap.size w w') : ClkM w' m l := by
  rcases h with h | ⟨b, rfl, h⟩
  · exact .inl h
  · exact .inr ⟨b, rfl, h.same (hb.block b h.lt)⟩
theorem ClkV.below {w w' : World} {p : Value} {l : List EN} (h : ClkV w p l) (hb : Below w.heap.size w w') : ClkV w' p l := by
  rcases h with h | ⟨b, m, rfl, ho, hm⟩
  · exact .inl h
  · exact .inr ⟨b, m, rfl, ho.below hb ho.lt, hm.below hb⟩
theorem ClkV.lt {w : World} {p : Value} {l : List EN} (h : ClkV w p l) {k : Nat} (hk : ClkB w p k) : k < w.heap.size := by
  rcases h with ⟨rfl, _⟩ | ⟨b, m, rfl, ho, hm⟩
  · rcases hk with e | ⟨b, T, e, _⟩ <;> cases e
  · rcases hk with e | ⟨b1, T, e, ho1⟩
    · cases e; exact ho.lt
    · cases e
      have := ho.symm.trans ho1
      simp only [Option.some.injEq, Obj.cells.injEq] at this
      have hm1 : m = .map (some k) := by simpa using this.1
      subst hm1
      rcases hm with ⟨e, _⟩ | ⟨b', e, h⟩
      · cases e
      · cases e; exact h.lt
/-- A clock's blocks are of a kind of their own. -/
theorem ClkV.kind {w : World} {p : Value} {l : List EN} (h : ClkV w p l) {k : Nat} (hk : ClkB w p k) {cs : Array Value} {T : TypeId} {fr : Nat × Nat} (ho : w.heap[k]? = some (.cells cs T fr)) : T = 51 := by
  rcases h with ⟨rfl, _⟩ | ⟨b, m, rfl, hb, hm⟩
  · rcases hk with e | ⟨b, T, e, _⟩ <;> cases e
  · rcases hk with e | ⟨b1, T1, e, ho1⟩
    · cases e
      have := hb.symm.trans ho
      simp only [Option.some.injEq, Obj.cells.injEq] at this
      exact this.2.1.symm
    · cases e
      have := hb.symm.trans ho1
      simp only [Option.some.injEq, Obj.cells.injEq] at this
      have hm1 : m = .map (some k) := by simpa using this.1
      subst hm1
      rcases hm with ⟨e, _⟩ | ⟨b', e, h⟩
      · cases e
      · cases e
        obtain ⟨es, c, h⟩ := h.isMap
        rw [h] at ho; cases ho
end Go.Proofs.Ytiegeejbnplhdaa
