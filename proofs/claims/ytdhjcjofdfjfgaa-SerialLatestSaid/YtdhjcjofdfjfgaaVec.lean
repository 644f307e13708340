/-
  Rows of elements of any kind (C: an element's cells, n of them) in memory, read and owned; an append of a whole slice.
-/
import Derived.Test.YtdhjcjofdfjfgaaAgg
import Derived.Laws.AppendOwn
import Derived.Laws.AppendOwnNone
namespace Go.Proofs.Ytdhjcjofdfjfgaa
open Go.RowKit
set_option linter.unusedVariables false
set_option linter.unusedSimpArgs false
set_option linter.unusedSectionVars false

/-- How elements of a kind lie in memory. -/
structure Kind (α : Type) where
  C : α → List Value
  n : Nat
  pos : 0 < n
  len : ∀ a, (C a).length = n
  one : ∀ a, ∀ u ∈ C a, u.oneCell' = true
variable {α : Type}
def Kind.Cs (K : Kind α) (l : List α) : List Value := (l.map K.C).flatten
def Kind.At (K : Kind α) (w : World) (b o : Nat) (l : List α) : Prop := ∀ i (h : i < l.length), row? w b (o + i * K.n) K.n = some (K.C l[i])
def Vec (K : Kind α) (w : World) (v : Value) (l : List α) : Prop :=
  ∃ (p : Option Addr) (cap : Nat), v = .slice p l.length cap ∧ l.length ≤ cap ∧ cap ≤ maxLen ∧ (p = none → cap = 0) ∧
    (l ≠ [] → ∃ b o, p = some ⟨b, o, none⟩ ∧ b < w.heap.size ∧ K.At w b o l)
theorem Vec.below {K : Kind α} {w w' : World} {v : Value} {l : List α} (h : Vec K w v l) (hb : Below w.heap.size w w') : Vec K w' v l := by
  obtain ⟨p, cap, h1, h2, h3, h4, h5⟩ := h
  refine ⟨p, cap, h1, h2, h3, h4, fun hn => ?_⟩
  obtain ⟨b, o, e1, e2, e3⟩ := h5 hn
  exact ⟨b, o, e1, Nat.lt_of_lt_of_le e2 hb.size, fun i h => row?_below (e3 i h) e2 hb⟩
theorem Vec.nil (K : Kind α) (w : World) : Vec K w (.slice none 0 0) [] := ⟨none, 0, rfl, Nat.le_refl _, by unfold maxLen; omega, fun _ => rfl, fun h => absurd rfl h⟩
theorem Vec.len {K : Kind α} {w : World} {v : Value} {l : List α} (h : Vec K w v l) : ∃ p cap, v = .slice p l.length cap ∧ l.length ≤ cap ∧ cap ≤ maxLen ∧ (p = none → cap = 0) := by
  obtain ⟨p, cap, h1, h2, h3, h4, h5⟩ := h
  exact ⟨p, cap, h1, h2, h3, h4⟩
theorem Vec.parts {K : Kind α} {w : World} {v : Value} {l : List α} (h : Vec K w v l) (hn : l ≠ []) : ∃ b o cap, v = .slice (some ⟨b, o, none⟩) l.length cap ∧ l.length ≤ cap ∧ cap ≤ maxLen ∧ b < w.heap.size ∧ K.At w b o l := by
  obtain ⟨p, cap, h1, h2, h3, h4, h5⟩ := h
  obtain ⟨b, o, rfl, e2, e3⟩ := h5 hn
  exact ⟨b, o, cap, h1, h2, h3, e2, e3⟩
theorem Kind.At.below {K : Kind α} {w w' : World} {b o B : Nat} {l : List α} (h : K.At w b o l) (hB : b < B) (hb : Below B w w') : K.At w' b o l := fun i hi => row?_below (h i hi) hB hb
theorem Kind.Cs_append (K : Kind α) (l m : List α) : K.Cs (l ++ m) = K.Cs l ++ K.Cs m := by unfold Kind.Cs; simp
theorem Kind.Cs_cons (K : Kind α) (a : α) (m : List α) : K.Cs (a :: m) = K.C a ++ K.Cs m := by unfold Kind.Cs; simp
/-- The cells of elements that lie in a row. -/
theorem Kind.At.cells {K : Kind α} {w : World} {b : Nat} : ∀ {l : List α} {o : Nat}, K.At w b o l → ∀ j u, (K.Cs l)[j]? = some u → w.cell? ⟨b, o + j, none⟩ = some u
  | [], _, _, j, u, h => by simp [Kind.Cs] at h
  | a :: r, o, hA, j, u, h => by
    have l1 := K.len a
    rw [K.Cs_cons] at h
    by_cases hj : j < K.n
    · rw [List.getElem?_append_left (by omega)] at h
      have hr := hA 0 (by simp)
      simp only [List.getElem_cons_zero, Nat.zero_mul, Nat.add_zero] at hr
      exact (rangeAt_of_row? hr).1 j u h
    · rw [List.getElem?_append_right (by omega), l1] at h
      have hA2 : K.At w b (o + K.n) r := fun i hi => by
        have := hA (i + 1) (by simpa using hi)
        rw [show o + (i + 1) * K.n = o + K.n + i * K.n by rw [Nat.add_mul]; omega] at this
        simpa using this
      have := Kind.At.cells hA2 (j - K.n) u h
      rw [show o + K.n + (j - K.n) = o + j by omega] at this
      exact this
/-- The cells of an element that lies in a row. -/
theorem Kind.At.cell {K : Kind α} {w : World} {b o : Nat} {l : List α} (h : K.At w b o l) {i : Nat} (hi : i < l.length) (j : Nat) (u : Value) (hu : (K.C l[i])[j]? = some u) : w.cell? ⟨b, o + i * K.n + j, none⟩ = some u :=
  (rangeAt_of_row? (h i hi)).1 j u hu
theorem Kind.At.take {K : Kind α} {w : World} {b o : Nat} {l : List α} (h : K.At w b o l) (k : Nat) : K.At w b o (l.take k) := fun i hi => by
  rw [List.length_take] at hi
  rw [List.getElem_take]
  exact h i (by omega)
theorem Kind.At.drop {K : Kind α} {w : World} {b o : Nat} {l : List α} (h : K.At w b o l) (k : Nat) : K.At w b (o + k * K.n) (l.drop k) := fun i hi => by
  rw [List.length_drop] at hi
  rw [List.getElem_drop]
  have := h (k + i) (by omega)
  rw [show o + (k + i) * K.n = o + k * K.n + i * K.n by rw [Nat.add_mul]; omega] at this
  exact this
/-- A slice that owns its block, or nil. -/
def OwnV (K : Kind α) (T : TypeId) (w : World) (base : Nat) (v : Value) (l : List α) : Prop := w.ownsRow base T K.n v l.length (K.Cs l)
theorem add_litV (b o j : Nat) : (⟨b, o, none⟩ : Addr).add j = ⟨b, o + j, none⟩ := by unfold Addr.add; split <;> simp_all
theorem OwnV.below {K : Kind α} {T : TypeId} {w w' : World} {base : Nat} {v : Value} {l : List α} (h : OwnV K T w base v l) (hb : Below w.heap.size w w') : OwnV K T w' base v l := by
  obtain ⟨h1, h2 | ⟨g, cap, cur, e1, e2, e3, e4⟩⟩ := h
  · exact ⟨h1, .inl h2⟩
  · exact ⟨h1, .inr ⟨g, cap, cur, e1, e2, (hb.block g (Array.getElem?_eq_some_iff.1 e3).1).trans e3, e4⟩⟩
theorem OwnV.mono {K : Kind α} {T : TypeId} {w : World} {base base' : Nat} {v : Value} {l : List α} (h : OwnV K T w base' v l) (hb : base ≤ base') : OwnV K T w base v l := by
  obtain ⟨h1, h2 | ⟨g, cap, cur, e1, e2, e3⟩⟩ := h
  · exact ⟨h1, .inl h2⟩
  · exact ⟨h1, .inr ⟨g, cap, cur, e1, Nat.le_trans hb e2, e3⟩⟩
theorem OwnV.ge {K : Kind α} {T : TypeId} {w : World} {base : Nat} {v : Value} {l : List α} (h : OwnV K T w base v l) : ∀ k, v.ownBlock = some k → base ≤ k ∧ k < w.heap.size := by
  obtain ⟨h1, h2 | ⟨g, cap, cur, e1, e2, e3, e4⟩⟩ := h
  · intro k hk; rw [h2.1] at hk; cases hk
  · intro k hk; rw [e1] at hk; cases hk; exact ⟨e2, (Array.getElem?_eq_some_iff.1 e3).1⟩
theorem OwnV.nil (K : Kind α) (T : TypeId) (w : World) (base : Nat) : OwnV K T w base (.slice none 0 0) [] := World.ownsRow_nil _ _ _ _
theorem Kind.Cs_get (K : Kind α) : ∀ {l : List α} (i j : Nat) (hi : i < l.length), j < K.n → (K.Cs l)[i * K.n + j]? = (K.C l[i])[j]?
  | a :: r, 0, j, hi, hj => by
    rw [K.Cs_cons, List.getElem?_append_left (by rw [K.len]; omega)]
    simp
  | a :: r, i + 1, j, hi, hj => by
    have e : (i + 1) * K.n + j = K.n + (i * K.n + j) := by rw [Nat.add_mul]; omega
    rw [K.Cs_cons, List.getElem?_append_right (by rw [K.len, e]; omega), K.len, e, Nat.add_sub_cancel_left]
    have := K.Cs_get (l := r) i j (by simpa using hi) hj
    simpa using this
/-- What a slice owns is read of it. -/
theorem OwnV.vec {K : Kind α} {T : TypeId} {w : World} {base : Nat} {v : Value} {l : List α} (h : OwnV K T w base v l) : Vec K w v l := by
  obtain ⟨h1, h2 | ⟨g, cap, cur, rfl, h3, h4, h5, h6, h7, h8⟩⟩ := h
  · obtain ⟨rfl, h2⟩ := h2
    have : l = [] := List.eq_nil_of_length_eq_zero h2
    subst this
    exact Vec.nil K w
  · refine ⟨some ⟨g, 0, none⟩, cap, rfl, h5, h6, fun e => (by cases e), fun hn => ⟨g, 0, rfl, (Array.getElem?_eq_some_iff.1 h4).1, fun i hi => ?_⟩⟩
    have hob : ObjAt w g cur T := h4
    have hr : w.rangeAt g (0 + i * K.n) (K.C l[i]) := fun j u hu => by
      have hj : j < K.n := by
        have := (List.getElem?_eq_some_iff.1 hu).1
        rw [K.len] at this
        exact this
      rw [ObjAt.cell hob, ← Array.getElem?_toList]
      have e1 := K.Cs_get i j hi hj
      rw [hu, ← h8, List.getElem?_take] at e1
      rw [Nat.zero_add]
      split at e1
      · exact e1
      · cases e1
    have := row?_of hr
    rw [K.len] at this
    exact this
end Go.Proofs.Ytdhjcjofdfjfgaa
